/-
  Contract of bus.Do. Contract of bus.Do. The law of layer 18: lay, live.
-/
import Derived.Test.YtfjdalepaacmgaaGreatYam
set_option maxRecDepth 20000
namespace Go.Proofs.YtfjdalepaacmgaaGreat
open Go.ChangeShapes Go.WideShapes Go.ChangeAt Go.RowKit

/-- An answer of a number alone. -/
def anB (v : Int) : Array Value := #[.int .u64 v, .bool false, .bool false, .bool false, .bool false, .int .u64 0, .int .i64 0, .bool false, .bool false, .bool false, .int .u64 0, .int .i64 0, .bool false, .bool false, .bool false, .int .u64 0, .int .i64 0, .bool false, .bool false, .bool false, .int .u64 0, .int .i64 0, .bool false, .bool false, .bool false, .int .u64 0, .int .i64 0, .bool false, .bool false, .bool false, .int .u64 0, .int .i64 0, .bool false, .bool false, .bool false, .int .u64 0, .int .i64 0, .bool false, .bool false, .bool false, .int .u64 0, .int .i64 0]
theorem info_AN : (Tryz.prog.info? ANT).map (·.size) = some 42 := by kernel_rfl
theorem iAN (v : Int) : (Tryz.prog.info? ANT).map (·.size) = some (anB v).size := info_AN
theorem anB_one (v : Int) : (anB v).all (·.oneCell') = true := by
  rw [Array.all_eq_true_iff_forall_mem]
  intro x hx
  simp only [anB, List.mem_toArray, List.mem_cons, List.not_mem_nil, or_false] at hx
  rcases hx with rfl | hx
  · rfl
  · repeat (first | (subst hx; rfl) | (rcases hx with rfl | hx; · rfl))
theorem anB_set (v x : Int) : (anB v).setIfInBounds 0 (.int .u64 x) = anB x := rfl
theorem zero_an (W : World) : (zeroValue ANT).run Tryz.prog W = .ok (.agg (anB 0)) W := by kernel_rfl
namespace Bs
def goB (X : B) (h : Int) (a : Ak) : Bool := mayB X.n a && !(a.kind == 11 && !hasB X.n h)
def dv (X : B) (a : Ak) : Nat := dev X.n a.addr a.size
def told (X : B) (h : Int) (a : Ak) : Int := if a.kind = 9 then readB X (dv X a) (offD a.addr (dv X a)) a.size else if a.kind = 11 then lineB X h else 0
def step (X : B) (a : Ak) : B :=
  if a.kind = 9 then readX X (dv X a) (offD a.addr (dv X a)) a.size
  else if a.kind = 10 then writeX X (dv X a) (offD a.addr (dv X a)) a.size a.data
  else if a.kind = 18 then { X with c := Ct.tickC X.n X.c (wrap64 a.data) }
  else if a.kind = 19 then { X with u := Ut.inS X.u (a.data % 256) }
  else if a.kind = 20 then (if a.size = 10 then X else { X with p := Pc.wireW X.n X.p a.size a.live })
  else X
def wired (X : B) : B := { X with p := Pc.wireW X.n X.p 10 (Ut.cause X.u != 1) }
def doX (X : B) (h : Int) (a : Ak) : B := if goB X h a = true then wired (step X a) else X
def doV (X : B) (h : Int) (a : Ak) : Int := if goB X h a = true then told X h a else 0
end Bs
/-- While something is done: the blocks rb and tb hold answers, the ask lies in its box. -/
structure DoS (F : Nat → Prop) (w w2 W : World) (b rb tb : Nat) (a : Ak) (Y : Bs.B) (v : Int) : Prop where
  ex : ∃ G, Bu G W b Y ∧ ∀ k, G k → F k ∨ w2.heap.size ≤ k
  chg : Chg (fun k => F k ∨ k = b) w W
  ak : AkAt W w.heap.size a
  r : CsAt W rb ANT (anB 0)
  t : CsAt W tb ANT (anB v)
  le : w2.heap.size ≤ W.heap.size
/-- What holds of the blocks all the while. -/
structure DoK (F : Nat → Prop) (w w2 : World) (b rb tb : Nat) : Prop where
  lo : ∀ k, F k → k < w.heap.size
  b : b < w.heap.size
  r : w.heap.size < rb ∧ rb < w2.heap.size
  t : rb < tb ∧ tb < w2.heap.size
section
variable {F : Nat → Prop} {w w2 W W' : World} {b rb tb : Nat} {a : Ak} {X Y : Bs.B} {v : Int}
theorem DoS.far {t : TypeId} {cs : Array Value} {c : Nat} (k : DoK F w w2 b rb tb) (hc : CsAt W c t cs) (h1 : w.heap.size ≤ c) (h2 : c < w2.heap.size) {G : Nat → Prop} (hG : ∀ k, G k → F k ∨ w2.heap.size ≤ k) (q : Chg (fun k => G k ∨ k = b) W W') : CsAt W' c t cs :=
  q.cs hc (fun hk => by
    have := k.lo
    have := k.b
    rcases hk with hk | hk
    · rcases hG _ hk with hk | hk
      · have := k.lo _ hk; omega
      · omega
    · omega)
theorem DoS.by_ {G : Nat → Prop} (h : DoS F w w2 W b rb tb a X v) (k : DoK F w w2 b rb tb) (h2 : ∀ k, G k → F k ∨ w2.heap.size ≤ k) (Q : BuQ G W W' b Y) : DoS F w w2 W' b rb tb a Y v := by
  obtain ⟨⟨J, k1, k2⟩, k3⟩ := Q
  refine ⟨⟨J, k1, fun i hi => ?_⟩, h.chg.transN k3 (fun i hi => ?_), ⟨DoS.far k h.ak.cs (Nat.le_refl _) (by have := k.r; omega) h2 k3⟩, DoS.far k h.r (by have := k.r; omega) k.r.2 h2 k3, DoS.far k h.t (by have := k.r; have := k.t; omega) k.t.2 h2 k3, Nat.le_trans h.le k3.size⟩
  · rcases k2 i hi with hi | hi
    · exact h2 i hi
    · exact .inr (Nat.le_trans h.le hi)
  · rcases hi with hi | hi
    · rcases h2 i hi with hi | hi
      · exact .inl (.inl hi)
      · exact .inr (by have := k.r; omega)
    · exact .inl (.inr hi)
theorem DoS.n1 (h : DoS F w w2 W b rb tb a X v) : W.cell? ⟨b, 1, none⟩ = some (.int .i64 X.n) := by
  obtain ⟨G, h1, -⟩ := h.ex
  exact h1.n1
theorem DoS.cell (h : DoS F w w2 W b rb tb a X v) : W.cell? ⟨tb, 0, none⟩ = some (.int .u64 v) ∧ W.frozen? ⟨tb, 0, none⟩ = false := ⟨h.t.cell 0, h.t.frozen 0⟩
theorem DoS.low (h : DoS F w w2 W b rb tb a X v) (k : DoK F w w2 b rb tb) (hb : Below W.heap.size W W') : DoS F w w2 W' b rb tb a X v := by
  obtain ⟨G, h1, h2⟩ := h.ex
  exact h.by_ k h2 (h1.keepQ hb)
/-- A number stored into the answer that is told. -/
theorem DoS.tell (h : DoS F w w2 W b rb tb a X v) (k : DoK F w w2 b rb tb) (x : Int) : DoS F w w2 (W.setCell ⟨tb, 0, none⟩ (.int .u64 x)) b rb tb a X x := by
  obtain ⟨G, h1, h2⟩ := h.ex
  have kr := k.r
  have kt := k.t
  have kb := k.b
  have hc : Chg (fun i => i = tb) W (W.setCell ⟨tb, 0, none⟩ (.int .u64 x)) := Chg.of_cell (S := fun i => i = tb) (b := tb) rfl 0 _
  obtain ⟨g, g1, g2⟩ := h1.ex
  refine ⟨⟨G, ⟨⟨g, hc.cs g1 (by omega), g2.keep hc (fun i hi e => ?_)⟩, h1.nb, h1.okc, h1.okp⟩, h2⟩, h.chg.transN hc (fun i hi => .inr (by omega)), ⟨hc.cs h.ak.cs (by omega)⟩, hc.cs h.r (by omega), ?_, by simpa using h.le⟩
  · rcases h2 i hi with hi | hi
    · have := k.lo _ hi; omega
    · omega
  · unfold CsAt
    rw [heap_setCell_same W tb 0 _ ANT _ h.t, anB_set]
/-- The answer stored. -/
theorem DoS.done (h : DoS F w w2 W b rb tb a X v) (k : DoK F w w2 b rb tb) (cs : Array Value) : BuQ F w (W.setRow rb cs) b X := by
  obtain ⟨G, h1, h2⟩ := h.ex
  have kr := k.r
  have kb := k.b
  have hc : Chg (fun i => i = rb) W (W.setRow rb cs) := Chg.of_row (S := fun i => i = rb) (b := rb) rfl _
  obtain ⟨g, g1, g2⟩ := h1.ex
  refine ⟨⟨G, ⟨⟨g, hc.cs g1 (by omega), g2.keep hc (fun i hi e => ?_)⟩, h1.nb, h1.okc, h1.okp⟩, fun i hi => (h2 i hi).imp id (fun h => by omega)⟩, h.chg.transN hc (fun i hi => .inr (by omega))⟩
  rcases h2 i hi with hi | hi
  · have := k.lo _ hi; omega
  · omega
end
end Go.Proofs.YtfjdalepaacmgaaGreat
set_option maxRecDepth 20000
namespace Go.Proofs.YtfjdalepaacmgaaGreat
open Go.ChangeShapes Go.WideShapes Go.ChangeAt Go.RowKit
namespace Bs
theorem readX_n (X : B) (d : Nat) (off size : Int) : (readX X d off size).n = X.n := by
  unfold readX
  split
  · rfl
  · split <;> rfl
theorem wrap_i (x : Int) : -9223372036854775808 ≤ wrap64 x ∧ wrap64 x ≤ 9223372036854775807 := by
  unfold wrap64
  omega
end Bs
set_option maxRecDepth 100000 in
set_option maxHeartbeats 32000000 in
theorem bdo_c (F : Nat → Prop) (b : Nat) (X : Bs.B) (h : Int) (a : Ak) (ha : a.In) (hn : X.u.out.length < 900) (w : World) (hb : Bu F w b X) :
    Calls Tryz.prog 7 #[.pointer (some ⟨b, 0, none⟩), .int .i64 h, .agg a.cells] w fun e w' => e = .returned (.tuple #[.agg (anB (Bs.doV X h a)), .bool (Bs.goB X h a)]) ∧ BuQ F w w' b (Bs.doX X h a) := by

  have hz := zero_an
  have hb0 : Below w.heap.size w ((w.alloc (.cells a.cells AKT)).alloc (.cells (anB 0) ANT)) := ((Below.refl _ _).alloc (Nat.le_refl _) _).alloc (by simp) _
  have hA : AkAt ((w.alloc (.cells a.cells AKT)).alloc (.cells (anB 0) ANT)) w.heap.size a := ⟨(CsAt.new w AKT a.cells).alloc _⟩
  have hR : CsAt ((w.alloc (.cells a.cells AKT)).alloc (.cells (anB 0) ANT)) (w.heap.size + 1) ANT (anB 0) := by
    have := CsAt.new (w.alloc (.cells a.cells AKT)) ANT (anB 0)
    simpa using this
  have HBE := Lib.hid hb0
  have HA := Lib.hid hA
  have HR := Lib.hid hR
  have HBU := Lib.hid hb
  have HIN := Lib.hid ha
  have hbl := hb.lt
  clear hb0 hA hR hb ha
  rcases kind_cases a.kind with hk | hk | hk | hk | hk | hk | hk
  · by_cases hd : Bs.dv X a < 3
    · have hm : Bs.mayB X.n a = true := by unfold Bs.mayB Bs.isK; rw [hk]; simpa [Bs.dv] using hd
      have HG := Lib.hid (show Bs.goB X h a = true by unfold Bs.goB; rw [hm, hk]; rfl)
      rw [show Bs.doV X h a = Bs.told X h a by unfold Bs.doV; rw [HG.out]; rfl, show Bs.doX X h a = Bs.wired (Bs.step X a) by unfold Bs.doX; rw [HG.out]; rfl, HG.out]
      have HV := Lib.hid (show Bs.told X h a = Bs.readB X (Bs.dv X a) (Bs.offD a.addr (Bs.dv X a)) a.size by unfold Bs.told; rw [hk]; rfl)
      have HY := Lib.hid (show Bs.wired (Bs.step X a) = Bs.wired (Bs.readX X (Bs.dv X a) (Bs.offD a.addr (Bs.dv X a)) a.size) by unfold Bs.step; rw [hk]; rfl)
      have HTG := Lib.hid (show Bs.tg (Bs.dev X.n a.addr a.size) a.addr a.size = #[.int .i64 (Bs.dv X a : Nat), .int .u64 (Bs.offD a.addr (Bs.dv X a)), .int .i64 a.size] by unfold Bs.tg; rw [if_pos (show Bs.dev X.n a.addr a.size < 3 from hd)]; rfl)
      have HOF := Lib.hid (Bs.offD_rng a.addr (Bs.dv X a))
      have HDD := Lib.hid hd
      clear HG
      go_enter Tryz.func7, Tryz.ntmps7
      go_upto_region 1 with fail
      generalize ((w.alloc (.cells a.cells AKT)).alloc (.cells (anB 0) ANT)) = w1 at *
      have HM := Lib.hid (may_c X.n b a HIN.out.size w1 (HBU.out.low HBE.out).n1)
      rw [hm] at HM
      go_wp2_with (refine wpList_load_row rfl AKT _ rfl w.heap.size rfl AKT _ (0, 0) _ HA.out.cs Tryz.underlying31 rfl info_AK ?_)
      refine HM.out.mono ?_
      rintro e w2 ⟨rfl, hb2⟩
      have HB2 := Lib.hid (HBE.out.trans (hb2.mono HBE.out.size))
      have HA2 := Lib.hid (HA.out.low hb2)
      have HR2 := Lib.hid (HR.out.low hb2)
      clear hb2 HM HBE HA HR
      have q0 := HA2.out.kind
      clear hm hd
      rw [hk] at q0
      go_upto_region 4 with fail
      have hb3 : Below w2.heap.size w2 (w2.alloc (.cells (anB 0) ANT)) := (Below.refl _ _).alloc (Nat.le_refl _) _
      have hsz : (w2.alloc (.cells (anB 0) ANT)).heap.size = w2.heap.size + 1 := by simp
      have hlr := HR2.out.lt
      have HK := Lib.hid (show DoK F w (w2.alloc (.cells (anB 0) ANT)) b (w.heap.size + 1) w2.heap.size from ⟨HBU.out.lo, hbl, ⟨by omega, by omega⟩, ⟨by omega, by omega⟩⟩)
      have HS := Lib.hid (show DoS F w (w2.alloc (.cells (anB 0) ANT)) (w2.alloc (.cells (anB 0) ANT)) b (w.heap.size + 1) w2.heap.size a X 0 from ⟨⟨F, HBU.out.low (HB2.out.trans (hb3.mono HB2.out.size)), fun _ hk => .inl hk⟩, Chg.of_below (HB2.out.trans (hb3.mono HB2.out.size)), HA2.out.low hb3, HR2.out.low hb3, CsAt.new _ _ _, Nat.le_refl _⟩)
      clear hb3 hsz hlr q0 HA2 HR2 HB2 hz
      generalize w2.alloc (.cells (anB 0) ANT) = w3 at *
      generalize w2.heap.size = tb at *
      have q0 := HS.out.ak.kind
      rw [hk] at q0
      go_upto_region 6 with fail
      clear q0
      have hs0 : AkAt w3.drew w.heap.size a ∧ w3.drew.cell? ⟨b, 1, none⟩ = some (.int .i64 X.n) := ⟨HS.out.ak.low (below_dU (Below.refl _ _) 1), (HS.out.low HK.out (below_dU (Below.refl _ _) 1)).n1⟩
      refine wp_region_noPanic ?_
      refine wp_region_held (S := fun W => AkAt W w.heap.size a ∧ W.cell? ⟨b, 1, none⟩ = some (.int .i64 X.n)) (by kernel_rfl) ?_
      refine takeH (fuel := 12) (i := 0) (.pointer (some ⟨b, 0, none⟩)) ?_ rfl (by kernel_rfl) (by kernel_rfl) (by kernel_rfl) (fun _ _ _ h => h) (by kernel_rfl) (fun W hS => by go_simp) hs0 ?_ ?_
      rotate_left 1
      · go_simp
        exact rfl
      refine takeH (fuel := 11) (i := 1) (.pointer (some ⟨b, 0, none⟩)) ?_ rfl (by kernel_rfl) (by kernel_rfl) (by kernel_rfl) (fun _ _ _ h => h) (by kernel_rfl) (fun W hS => by go_simp) hs0 ?_ ?_
      rotate_left 1
      · go_simp
        exact rfl
      refine takeH (fuel := 10) (i := 2) (.pointer (some ⟨b, 0, none⟩)) ?_ rfl (by kernel_rfl) (by kernel_rfl) (by kernel_rfl) (fun _ _ _ h => h) (by kernel_rfl) (fun W hS => by go_simp) hs0 ?_ ?_
      rotate_left 1
      · go_simp
        exact rfl
      refine takeH (fuel := 9) (i := 3) (.pointer (some ⟨b, 1, none⟩)) ?_ rfl (by kernel_rfl) (by kernel_rfl) (by kernel_rfl) (fun _ _ _ h => h) (by kernel_rfl) (fun W hS => by go_simp) hs0 ?_ ?_
      rotate_left 1
      · go_simp
        exact rfl
      refine takeH (fuel := 8) (i := 4) (.int .i64 X.n) ?_ rfl (by kernel_rfl) (by kernel_rfl) (by kernel_rfl) (fun _ _ _ h => h) (by kernel_rfl) (fun W hS => by (have q := hS.2; go_simp)) hs0 ?_ ?_
      rotate_left 1
      · go_simp
        exact rfl
      refine takeH (fuel := 7) (i := 5) (.pointer (some ⟨w.heap.size, 1, none⟩)) ?_ rfl (by kernel_rfl) (by kernel_rfl) (by kernel_rfl) (fun _ _ _ h => h) (by kernel_rfl) (fun W hS => by go_simp) hs0 ?_ ?_
      rotate_left 1
      · go_simp
        exact rfl
      refine takeH (fuel := 6) (i := 6) (.int .u64 a.addr) ?_ rfl (by kernel_rfl) (by kernel_rfl) (by kernel_rfl) (fun _ _ _ h => h) (by kernel_rfl) (fun W hS => by (have q := hS.1.addr; go_simp)) hs0 ?_ ?_
      rotate_left 1
      · go_simp
        exact rfl
      refine takeH (fuel := 5) (i := 7) (.pointer (some ⟨w.heap.size, 4, none⟩)) ?_ rfl (by kernel_rfl) (by kernel_rfl) (by kernel_rfl) (fun _ _ _ h => h) (by kernel_rfl) (fun W hS => by go_simp) hs0 ?_ ?_
      rotate_left 1
      · go_simp
        exact rfl
      refine takeH (fuel := 4) (i := 8) (.int .i64 a.size) ?_ rfl (by kernel_rfl) (by kernel_rfl) (by kernel_rfl) (fun _ _ _ h => h) (by kernel_rfl) (fun W hS => by (have q := hS.1.size; go_simp)) hs0 ?_ ?_
      rotate_left 1
      · go_simp
        exact rfl
      refine wpAnyH_all (fuel := 3) (rs := [9]) (by kernel_rfl) (by decide) ?_
      intro i hi
      obtain rfl : i = 9 := by simpa using hi
      refine wpOp_callX 24 #[.int .i64 X.n, .int .u64 a.addr, .int .i64 a.size] rfl (by kernel_rfl) (by go_simp) ?_
      refine (find_c X.n a.addr a.size w3.drew).mono ?_
      rintro e w4 ⟨rfl, hb4⟩
      rw [HTG.out]
      have hS4 := (HS.out.low HK.out (below_dU (Below.refl w3.heap.size w3) 1)).low HK.out hb4
      have hs4 : AkAt w4 w.heap.size a ∧ w4.cell? ⟨b, 1, none⟩ = some (.int .i64 X.n) := ⟨hS4.ak, hS4.n1⟩
      refine ⟨_, rfl, hs4, ?_⟩
      refine wpAnyH_all (fuel := 2) (rs := [10]) (by kernel_rfl) (by decide) ?_
      intro i hi
      obtain rfl : i = 10 := by simpa using hi
      refine wpOp_callX 23 #[.pointer (some ⟨b, 0, none⟩), .agg #[.int .i64 (Bs.dv X a : Nat), .int .u64 (Bs.offD a.addr (Bs.dv X a)), .int .i64 a.size]] rfl (by kernel_rfl) (by go_simp) ?_
      obtain ⟨G, hG, hG2⟩ := hS4.ex
      refine (bread_c G b X (Bs.dv X a) HDD.out (Bs.offD a.addr (Bs.dv X a)) a.size HOF.out.1 HOF.out.2 w4 hG).mono ?_
      rintro e w5 ⟨rfl, hq5⟩
      have hS5 := hS4.by_ HK.out hG2 hq5
      have hs5 : AkAt w5 w.heap.size a ∧ w5.cell? ⟨b, 1, none⟩ = some (.int .i64 X.n) := ⟨hS5.ak, by have q := hS5.n1; rwa [Bs.readX_n] at q⟩
      obtain ⟨qc, qf⟩ := hS5.cell
      refine ⟨_, rfl, hs5, ?_⟩
      refine takeH (fuel := 1) (i := 11) (.pointer (some ⟨tb, 0, none⟩)) ?_ rfl (by kernel_rfl) (by kernel_rfl) (by kernel_rfl) (fun _ _ _ h => h) (by kernel_rfl) (fun W hS => by go_simp) hs5 ?_ ?_
      rotate_left 1
      · go_simp
        exact rfl
      refine wpAnyH_all (fuel := 0) (rs := [12]) (by kernel_rfl) (by decide) ?_
      intro i hi
      obtain rfl : i = 12 := by simpa using hi
      refine wpOp_unitB (w5.setCell ⟨tb, 0, none⟩ (.int .u64 (Bs.readB X (Bs.dv X a) (Bs.offD a.addr (Bs.dv X a)) a.size))) _ rfl (by kernel_rfl) (by go_simp) rfl ?_
      have hS6 := hS5.tell HK.out (Bs.readB X (Bs.dv X a) (Bs.offD a.addr (Bs.dv X a)) a.size)
      have hs6 : AkAt (w5.setCell ⟨tb, 0, none⟩ (.int .u64 (Bs.readB X (Bs.dv X a) (Bs.offD a.addr (Bs.dv X a)) a.size))) w.heap.size a ∧ (w5.setCell ⟨tb, 0, none⟩ (.int .u64 (Bs.readB X (Bs.dv X a) (Bs.offD a.addr (Bs.dv X a)) a.size))).cell? ⟨b, 1, none⟩ = some (.int .i64 X.n) := ⟨hS6.ak, by have q := hS6.n1; rwa [Bs.readX_n] at q⟩
      refine ⟨hs6, ?_⟩
      refine wpAnyH_done (by kernel_rfl) ?_ _
      refine NoPanic.normal ?_
      have HT := Lib.hid hS6
      clear hs0 hs4 hs5 hs6 hS4 hS5 hS6 qc qf hG hG2 hq5 hb4 HS HTG HOF HDD
      generalize w5.setCell ⟨tb, 0, none⟩ (.int .u64 (Bs.readB X (Bs.dv X a) (Bs.offD a.addr (Bs.dv X a)) a.size)) = wz at *
      generalize Bs.readB X (Bs.dv X a) (Bs.offD a.addr (Bs.dv X a)) a.size = rv at *
      generalize Bs.readX X (Bs.dv X a) (Bs.offD a.addr (Bs.dv X a)) a.size = Y at *
      obtain ⟨q, hq⟩ : ∃ q, (Ut.cause Y.u != 1) = q := ⟨_, rfl⟩
      have HW := Lib.hid (show Bs.wired Y = { Y with p := Pc.wireW Y.n Y.p 10 q } by unfold Bs.wired; rw [hq])
      have HQQ := Lib.hid hq
      clear hq
      go_upto_region 18 with fail
      obtain ⟨G, hG, hG2⟩ := HT.out.ex
      obtain ⟨g, hrow, hpt⟩ := hG.ex
      have c0 : wz.cell? ⟨b, 0, none⟩ = some (.pointer (some ⟨g, 0, none⟩)) := by rw [hrow.cell]; exact buV_u
      have hbd : Below wz.heap.size wz wz.drew := below_dU (Below.refl _ _) 1
      have HGD := Lib.hid (hG.low hbd)
      have HRD := Lib.hid (hrow.low hbd)
      have HPD := Lib.hid (hpt.low hbd)
      have HTD := Lib.hid (HT.out.low HK.out hbd)
      have HG2 := Lib.hid hG2
      have hWd : wz.drew = wz.drew := rfl
      clear hG hG2 hrow hpt hbd HT
      refine wp_region_steady_tail (fun W => W = wz.drew) 8 (by kernel_rfl) (by kernel_rfl) hWd ?_
      iterate 7
        refine steady_val ?_ ?_ (by rfl) (fun W hS => ?_) ?_ ?_
        rotate_left 2
        · subst hS
          go_simp
          exact rfl
        · go_simp
          exact rfl
      refine steady_enter (.bool q) 29 #[.pointer (some ⟨g, 0, none⟩)] ?_ (by rfl) (fun W hS => ?_) (fun W hS => (by subst hS; exact (uline_c HPD.out).mono (by rintro e w' ⟨rfl, rfl⟩; exact ⟨by rw [HQQ.out], rfl⟩))) ?_ ?_
      rotate_left 1
      · subst hS
        go_simp
      · go_simp
        exact rfl
      refine steady_nil ?_
      rintro W rfl
      simp only [List.drop_succ_cons, List.drop_zero]
      try clear q4
      try clear q0
      clear hWd c0
      go_wp2_with fail
      refine (Bp.pwire_c (S := ⟨.pointer (some ⟨g, 0, none⟩), (Y).c, HGD.out.okc.len⟩) (some ⟨b, 20, none⟩) (Y).n (Y).p 10 (by omega) (by omega) q wz.drew (.inr ⟨b, rfl, ⟨HRD.out, HGD.out.okp⟩⟩)).mono ?_
      rintro e w9 ⟨rfl, hp9, ho9⟩
      have HF := Lib.hid (HTD.out.by_ HK.out HG2.out (BuQ.of_p HGD.out HPD.out hp9 ho9))
      clear hp9 ho9 HGD HRD HPD HTD HG2
      go_wp2_with (first | (refine wpList_load_row rfl ANT _ rfl tb rfl ANT _ (0, 0) _ HF.out.t Tryz.underlying57 rfl (iAN _) ?_) | (refine wpList_store_row rfl ANT _ _ rfl (w.heap.size + 1) (anB (rv)) (by kernel_rfl) (by kernel_rfl) ANT (anB 0) HF.out.r (iAN _) rfl (anB_one _) ?_))
      exact bodyPost_ret (results_cb ANT Tryz.results7 _ _ (w.heap.size + 1) _ _ rfl rfl (run_loadVar_row _ _ ANT ANT _ (0, 0) _ (HF.out.r.row (anB (rv))) Tryz.underlying57 rfl (iAN _))) rfl ⟨by rw [HV.out]; rfl, by rw [HY.out, HW.out]; exact HF.out.done HK.out _⟩
    · have hm : Bs.mayB X.n a = false := by unfold Bs.mayB Bs.isK; rw [hk]; simpa [Bs.dv] using hd
      have HG := Lib.hid (show Bs.goB X h a = false by unfold Bs.goB; rw [hm]; rfl)
      rw [show Bs.doV X h a = 0 by unfold Bs.doV; rw [HG.out]; rfl, show Bs.doX X h a = X by unfold Bs.doX; rw [HG.out]; rfl, HG.out]
      go_enter Tryz.func7, Tryz.ntmps7
      go_upto_region 1 with fail
      generalize ((w.alloc (.cells a.cells AKT)).alloc (.cells (anB 0) ANT)) = w1 at *
      have HM := Lib.hid (may_c X.n b a HIN.out.size w1 (HBU.out.low HBE.out).n1)
      rw [hm] at HM
      go_wp2_with (refine wpList_load_row rfl AKT _ rfl w.heap.size rfl AKT _ (0, 0) _ HA.out.cs Tryz.underlying31 rfl info_AK ?_)
      refine HM.out.mono ?_
      rintro e w2 ⟨rfl, hb2⟩
      have HB2 := Lib.hid (HBE.out.trans (hb2.mono HBE.out.size))
      have HA2 := Lib.hid (HA.out.low hb2)
      have HR2 := Lib.hid (HR.out.low hb2)
      clear hb2 HM HBE HA HR
      have q0 := HA2.out.kind
      clear hm hd
      go_upto_region 2 with fail
      clear hz
      go_wp2_with (refine wpList_store_row rfl ANT _ _ rfl (w.heap.size + 1) (anB 0) (by kernel_rfl) (by kernel_rfl) ANT (anB 0) HR2.out (iAN 0) rfl (anB_one 0) ?_)
      exact bodyPost_ret (results_cb ANT Tryz.results7 _ _ (w.heap.size + 1) _ _ rfl rfl (run_loadVar_row _ _ ANT ANT _ (0, 0) _ (HR2.out.row (anB 0)) Tryz.underlying57 rfl (iAN 0))) rfl ⟨rfl, HBU.out.keepQ (HB2.out.trans ((Chg.of_row (S := fun k => k = w.heap.size + 1) (b := w.heap.size + 1) rfl _).below HB2.out.size (fun k hk => by omega)))⟩
  · by_cases hd : Bs.dv X a < 3
    · have hm : Bs.mayB X.n a = true := by unfold Bs.mayB Bs.isK; rw [hk]; simpa [Bs.dv] using hd
      have HG := Lib.hid (show Bs.goB X h a = true by unfold Bs.goB; rw [hm, hk]; rfl)
      rw [show Bs.doV X h a = Bs.told X h a by unfold Bs.doV; rw [HG.out]; rfl, show Bs.doX X h a = Bs.wired (Bs.step X a) by unfold Bs.doX; rw [HG.out]; rfl, HG.out]
      have HV := Lib.hid (show Bs.told X h a = 0 by unfold Bs.told; rw [hk]; rfl)
      have HY := Lib.hid (show Bs.wired (Bs.step X a) = Bs.wired (Bs.writeX X (Bs.dv X a) (Bs.offD a.addr (Bs.dv X a)) a.size a.data) by unfold Bs.step; rw [hk]; rfl)
      have HTG := Lib.hid (show Bs.tg (Bs.dev X.n a.addr a.size) a.addr a.size = #[.int .i64 (Bs.dv X a : Nat), .int .u64 (Bs.offD a.addr (Bs.dv X a)), .int .i64 a.size] by unfold Bs.tg; rw [if_pos (show Bs.dev X.n a.addr a.size < 3 from hd)]; rfl)
      have HOF := Lib.hid (Bs.offD_rng a.addr (Bs.dv X a))
      have HDD := Lib.hid hd
      clear HG
      go_enter Tryz.func7, Tryz.ntmps7
      go_upto_region 1 with fail
      generalize ((w.alloc (.cells a.cells AKT)).alloc (.cells (anB 0) ANT)) = w1 at *
      have HM := Lib.hid (may_c X.n b a HIN.out.size w1 (HBU.out.low HBE.out).n1)
      rw [hm] at HM
      go_wp2_with (refine wpList_load_row rfl AKT _ rfl w.heap.size rfl AKT _ (0, 0) _ HA.out.cs Tryz.underlying31 rfl info_AK ?_)
      refine HM.out.mono ?_
      rintro e w2 ⟨rfl, hb2⟩
      have HB2 := Lib.hid (HBE.out.trans (hb2.mono HBE.out.size))
      have HA2 := Lib.hid (HA.out.low hb2)
      have HR2 := Lib.hid (HR.out.low hb2)
      clear hb2 HM HBE HA HR
      have q0 := HA2.out.kind
      clear hm hd
      rw [hk] at q0
      go_upto_region 4 with fail
      have hb3 : Below w2.heap.size w2 (w2.alloc (.cells (anB 0) ANT)) := (Below.refl _ _).alloc (Nat.le_refl _) _
      have hsz : (w2.alloc (.cells (anB 0) ANT)).heap.size = w2.heap.size + 1 := by simp
      have hlr := HR2.out.lt
      have HK := Lib.hid (show DoK F w (w2.alloc (.cells (anB 0) ANT)) b (w.heap.size + 1) w2.heap.size from ⟨HBU.out.lo, hbl, ⟨by omega, by omega⟩, ⟨by omega, by omega⟩⟩)
      have HS := Lib.hid (show DoS F w (w2.alloc (.cells (anB 0) ANT)) (w2.alloc (.cells (anB 0) ANT)) b (w.heap.size + 1) w2.heap.size a X 0 from ⟨⟨F, HBU.out.low (HB2.out.trans (hb3.mono HB2.out.size)), fun _ hk => .inl hk⟩, Chg.of_below (HB2.out.trans (hb3.mono HB2.out.size)), HA2.out.low hb3, HR2.out.low hb3, CsAt.new _ _ _, Nat.le_refl _⟩)
      clear hb3 hsz hlr q0 HA2 HR2 HB2 hz
      generalize w2.alloc (.cells (anB 0) ANT) = w3 at *
      generalize w2.heap.size = tb at *
      have q0 := HS.out.ak.kind
      rw [hk] at q0
      have HQ := Lib.hid (fun (W : World) (hl : Below w3.heap.size w3 W) => HS.out.low HK.out hl)
      go_upto_region 8 with fail
      clear q0
      refine wp_region_steady_tail (fun W => Below w3.heap.size w3 W) 12 (by kernel_rfl) (by kernel_rfl) (below_dU (Below.refl _ _) 1) ?_
      iterate 4
        refine steady_val ?_ ?_ (by kernel_rfl) (fun W hS => ?_) ?_ ?_
        rotate_left 2
        · go_simp
          exact rfl
        · go_simp
          exact rfl
      refine steady_val ?_ ?_ (by kernel_rfl) (fun W hS => ?_) ?_ ?_
      rotate_left 2
      · have q1 := (HQ.out _ hS).n1; go_simp
        exact rfl
      · go_simp
        exact rfl
      refine steady_val ?_ ?_ (by kernel_rfl) (fun W hS => ?_) ?_ ?_
      rotate_left 2
      · go_simp
        exact rfl
      · go_simp
        exact rfl
      refine steady_val ?_ ?_ (by kernel_rfl) (fun W hS => ?_) ?_ ?_
      rotate_left 2
      · have q1 := (HQ.out _ hS).ak.addr; go_simp
        exact rfl
      · go_simp
        exact rfl
      refine steady_val ?_ ?_ (by kernel_rfl) (fun W hS => ?_) ?_ ?_
      rotate_left 2
      · go_simp
        exact rfl
      · go_simp
        exact rfl
      refine steady_val ?_ ?_ (by kernel_rfl) (fun W hS => ?_) ?_ ?_
      rotate_left 2
      · have q1 := (HQ.out _ hS).ak.size; go_simp
        exact rfl
      · go_simp
        exact rfl
      refine steady_enter (.agg #[.int .i64 (Bs.dv X a : Nat), .int .u64 (Bs.offD a.addr (Bs.dv X a)), .int .i64 a.size]) 24 #[.int .i64 X.n, .int .u64 a.addr, .int .i64 a.size] ?_ (by kernel_rfl) (fun W hS => ?_) (fun W hS => (find_c X.n a.addr a.size W).mono (by rintro e w' ⟨rfl, hb⟩; exact ⟨by rw [HTG.out], hS.trans (hb.mono hS.size)⟩)) ?_ ?_
      rotate_left 1
      · go_simp
      · go_simp
        exact rfl
      refine steady_val ?_ ?_ (by kernel_rfl) (fun W hS => ?_) ?_ ?_
      rotate_left 2
      · go_simp
        exact rfl
      · go_simp
        exact rfl
      refine steady_val ?_ ?_ (by kernel_rfl) (fun W hS => ?_) ?_ ?_
      rotate_left 2
      · have q1 := (HQ.out _ hS).ak.data; go_simp
        exact rfl
      · go_simp
        exact rfl
      refine steady_nil ?_
      intro W hS
      simp only [List.drop_succ_cons, List.drop_zero]
      have HSW := Lib.hid (HQ.out W hS)
      clear HQ hS HS
      go_wp2_with fail
      obtain ⟨G, hG, hG2⟩ := HSW.out.ex
      refine (bwrite_c G b X (Bs.dv X a) HDD.out (Bs.offD a.addr (Bs.dv X a)) a.size a.data HOF.out.1 HOF.out.2 HIN.out.data.1 HIN.out.data.2 hn W hG).mono ?_
      rintro e wz ⟨rfl, hq5⟩
      have HT := Lib.hid (HSW.out.by_ HK.out hG2 hq5)
      clear hq5 hG hG2 HSW HTG HOF HDD
      generalize Bs.writeX X (Bs.dv X a) (Bs.offD a.addr (Bs.dv X a)) a.size a.data = Y at *
      obtain ⟨q, hq⟩ : ∃ q, (Ut.cause Y.u != 1) = q := ⟨_, rfl⟩
      have HW := Lib.hid (show Bs.wired Y = { Y with p := Pc.wireW Y.n Y.p 10 q } by unfold Bs.wired; rw [hq])
      have HQQ := Lib.hid hq
      clear hq
      go_upto_region 18 with fail
      obtain ⟨G, hG, hG2⟩ := HT.out.ex
      obtain ⟨g, hrow, hpt⟩ := hG.ex
      have c0 : wz.cell? ⟨b, 0, none⟩ = some (.pointer (some ⟨g, 0, none⟩)) := by rw [hrow.cell]; exact buV_u
      have hbd : Below wz.heap.size wz wz.drew := below_dU (Below.refl _ _) 1
      have HGD := Lib.hid (hG.low hbd)
      have HRD := Lib.hid (hrow.low hbd)
      have HPD := Lib.hid (hpt.low hbd)
      have HTD := Lib.hid (HT.out.low HK.out hbd)
      have HG2 := Lib.hid hG2
      have hWd : wz.drew = wz.drew := rfl
      clear hG hG2 hrow hpt hbd HT
      refine wp_region_steady_tail (fun W => W = wz.drew) 8 (by kernel_rfl) (by kernel_rfl) hWd ?_
      iterate 7
        refine steady_val ?_ ?_ (by rfl) (fun W hS => ?_) ?_ ?_
        rotate_left 2
        · subst hS
          go_simp
          exact rfl
        · go_simp
          exact rfl
      refine steady_enter (.bool q) 29 #[.pointer (some ⟨g, 0, none⟩)] ?_ (by rfl) (fun W hS => ?_) (fun W hS => (by subst hS; exact (uline_c HPD.out).mono (by rintro e w' ⟨rfl, rfl⟩; exact ⟨by rw [HQQ.out], rfl⟩))) ?_ ?_
      rotate_left 1
      · subst hS
        go_simp
      · go_simp
        exact rfl
      refine steady_nil ?_
      rintro W rfl
      simp only [List.drop_succ_cons, List.drop_zero]
      try clear q4
      try clear q0
      clear hWd c0
      go_wp2_with fail
      refine (Bp.pwire_c (S := ⟨.pointer (some ⟨g, 0, none⟩), (Y).c, HGD.out.okc.len⟩) (some ⟨b, 20, none⟩) (Y).n (Y).p 10 (by omega) (by omega) q wz.drew (.inr ⟨b, rfl, ⟨HRD.out, HGD.out.okp⟩⟩)).mono ?_
      rintro e w9 ⟨rfl, hp9, ho9⟩
      have HF := Lib.hid (HTD.out.by_ HK.out HG2.out (BuQ.of_p HGD.out HPD.out hp9 ho9))
      clear hp9 ho9 HGD HRD HPD HTD HG2
      go_wp2_with (first | (refine wpList_load_row rfl ANT _ rfl tb rfl ANT _ (0, 0) _ HF.out.t Tryz.underlying57 rfl (iAN _) ?_) | (refine wpList_store_row rfl ANT _ _ rfl (w.heap.size + 1) (anB (0)) (by kernel_rfl) (by kernel_rfl) ANT (anB 0) HF.out.r (iAN _) rfl (anB_one _) ?_))
      exact bodyPost_ret (results_cb ANT Tryz.results7 _ _ (w.heap.size + 1) _ _ rfl rfl (run_loadVar_row _ _ ANT ANT _ (0, 0) _ (HF.out.r.row (anB (0))) Tryz.underlying57 rfl (iAN _))) rfl ⟨by rw [HV.out]; rfl, by rw [HY.out, HW.out]; exact HF.out.done HK.out _⟩
    · have hm : Bs.mayB X.n a = false := by unfold Bs.mayB Bs.isK; rw [hk]; simpa [Bs.dv] using hd
      have HG := Lib.hid (show Bs.goB X h a = false by unfold Bs.goB; rw [hm]; rfl)
      rw [show Bs.doV X h a = 0 by unfold Bs.doV; rw [HG.out]; rfl, show Bs.doX X h a = X by unfold Bs.doX; rw [HG.out]; rfl, HG.out]
      go_enter Tryz.func7, Tryz.ntmps7
      go_upto_region 1 with fail
      generalize ((w.alloc (.cells a.cells AKT)).alloc (.cells (anB 0) ANT)) = w1 at *
      have HM := Lib.hid (may_c X.n b a HIN.out.size w1 (HBU.out.low HBE.out).n1)
      rw [hm] at HM
      go_wp2_with (refine wpList_load_row rfl AKT _ rfl w.heap.size rfl AKT _ (0, 0) _ HA.out.cs Tryz.underlying31 rfl info_AK ?_)
      refine HM.out.mono ?_
      rintro e w2 ⟨rfl, hb2⟩
      have HB2 := Lib.hid (HBE.out.trans (hb2.mono HBE.out.size))
      have HA2 := Lib.hid (HA.out.low hb2)
      have HR2 := Lib.hid (HR.out.low hb2)
      clear hb2 HM HBE HA HR
      have q0 := HA2.out.kind
      clear hm hd
      go_upto_region 2 with fail
      clear hz
      go_wp2_with (refine wpList_store_row rfl ANT _ _ rfl (w.heap.size + 1) (anB 0) (by kernel_rfl) (by kernel_rfl) ANT (anB 0) HR2.out (iAN 0) rfl (anB_one 0) ?_)
      exact bodyPost_ret (results_cb ANT Tryz.results7 _ _ (w.heap.size + 1) _ _ rfl rfl (run_loadVar_row _ _ ANT ANT _ (0, 0) _ (HR2.out.row (anB 0)) Tryz.underlying57 rfl (iAN 0))) rfl ⟨rfl, HBU.out.keepQ (HB2.out.trans ((Chg.of_row (S := fun k => k = w.heap.size + 1) (b := w.heap.size + 1) rfl _).below HB2.out.size (fun k hk => by omega)))⟩
  · have hm : Bs.mayB X.n a = true := by unfold Bs.mayB Bs.isK Bs.otherK; rw [hk]; rfl
    cases hh : Bs.hasB X.n h with
    | false =>
      have HG := Lib.hid (show Bs.goB X h a = false by unfold Bs.goB; rw [hm, hk, hh]; rfl)
      rw [show Bs.doV X h a = 0 by unfold Bs.doV; rw [HG.out]; rfl, show Bs.doX X h a = X by unfold Bs.doX; rw [HG.out]; rfl, HG.out]
      go_enter Tryz.func7, Tryz.ntmps7
      go_upto_region 1 with fail
      generalize ((w.alloc (.cells a.cells AKT)).alloc (.cells (anB 0) ANT)) = w1 at *
      have HM := Lib.hid (may_c X.n b a HIN.out.size w1 (HBU.out.low HBE.out).n1)
      rw [hm] at HM
      go_wp2_with (refine wpList_load_row rfl AKT _ rfl w.heap.size rfl AKT _ (0, 0) _ HA.out.cs Tryz.underlying31 rfl info_AK ?_)
      refine HM.out.mono ?_
      rintro e w2 ⟨rfl, hb2⟩
      have HB2 := Lib.hid (HBE.out.trans (hb2.mono HBE.out.size))
      have HA2 := Lib.hid (HA.out.low hb2)
      have HR2 := Lib.hid (HR.out.low hb2)
      clear hb2 HM HBE HA HR
      have q0 := HA2.out.kind
      rw [hk] at q0
      have HH := Lib.hid (has_c X.n b h w2 (HBU.out.low HB2.out).n1)
      rw [hh] at HH
      go_wp2_with fail
      refine HH.out.mono ?_
      rintro e w3 ⟨rfl, rfl⟩
      go_upto_region 2 with fail
      clear hz
      go_wp2_with (refine wpList_store_row rfl ANT _ _ rfl (w.heap.size + 1) (anB 0) (by kernel_rfl) (by kernel_rfl) ANT (anB 0) HR2.out (iAN 0) rfl (anB_one 0) ?_)
      exact bodyPost_ret (results_cb ANT Tryz.results7 _ _ (w.heap.size + 1) _ _ rfl rfl (run_loadVar_row _ _ ANT ANT _ (0, 0) _ (HR2.out.row (anB 0)) Tryz.underlying57 rfl (iAN 0))) rfl ⟨rfl, HBU.out.keepQ (HB2.out.trans ((Chg.of_row (S := fun k => k = w.heap.size + 1) (b := w.heap.size + 1) rfl _).below HB2.out.size (fun k hk => by omega)))⟩
    | true =>
      have HG := Lib.hid (show Bs.goB X h a = true by unfold Bs.goB; rw [hm, hk, hh]; rfl)
      rw [show Bs.doV X h a = Bs.told X h a by unfold Bs.doV; rw [HG.out]; rfl, show Bs.doX X h a = Bs.wired (Bs.step X a) by unfold Bs.doX; rw [HG.out]; rfl, HG.out]
      have HV := Lib.hid (show Bs.told X h a = Bs.lineB X h by unfold Bs.told; rw [hk]; rfl)
      have HY := Lib.hid (show Bs.wired (Bs.step X a) = Bs.wired (X) by unfold Bs.step; rw [hk]; rfl)
      go_enter Tryz.func7, Tryz.ntmps7
      go_upto_region 1 with fail
      generalize ((w.alloc (.cells a.cells AKT)).alloc (.cells (anB 0) ANT)) = w1 at *
      have HM := Lib.hid (may_c X.n b a HIN.out.size w1 (HBU.out.low HBE.out).n1)
      rw [hm] at HM
      go_wp2_with (refine wpList_load_row rfl AKT _ rfl w.heap.size rfl AKT _ (0, 0) _ HA.out.cs Tryz.underlying31 rfl info_AK ?_)
      refine HM.out.mono ?_
      rintro e w2 ⟨rfl, hb2⟩
      have HB2 := Lib.hid (HBE.out.trans (hb2.mono HBE.out.size))
      have HA2 := Lib.hid (HA.out.low hb2)
      have HR2 := Lib.hid (HR.out.low hb2)
      clear hb2 HM HBE HA HR
      have q0 := HA2.out.kind
      have HH := Lib.hid (has_c X.n b h w2 (HBU.out.low HB2.out).n1)
      rw [hh] at HH
      rw [hk] at q0
      go_wp2_with fail
      refine HH.out.mono ?_
      rintro e w2 ⟨rfl, rfl⟩
      clear HH hh hm
      rw [← hk] at q0
      rw [hk] at q0
      go_upto_region 4 with fail
      have hb3 : Below w2.heap.size w2 (w2.alloc (.cells (anB 0) ANT)) := (Below.refl _ _).alloc (Nat.le_refl _) _
      have hsz : (w2.alloc (.cells (anB 0) ANT)).heap.size = w2.heap.size + 1 := by simp
      have hlr := HR2.out.lt
      have HK := Lib.hid (show DoK F w (w2.alloc (.cells (anB 0) ANT)) b (w.heap.size + 1) w2.heap.size from ⟨HBU.out.lo, hbl, ⟨by omega, by omega⟩, ⟨by omega, by omega⟩⟩)
      have HS := Lib.hid (show DoS F w (w2.alloc (.cells (anB 0) ANT)) (w2.alloc (.cells (anB 0) ANT)) b (w.heap.size + 1) w2.heap.size a X 0 from ⟨⟨F, HBU.out.low (HB2.out.trans (hb3.mono HB2.out.size)), fun _ hk => .inl hk⟩, Chg.of_below (HB2.out.trans (hb3.mono HB2.out.size)), HA2.out.low hb3, HR2.out.low hb3, CsAt.new _ _ _, Nat.le_refl _⟩)
      clear hb3 hsz hlr q0 HA2 HR2 HB2 hz
      generalize w2.alloc (.cells (anB 0) ANT) = w3 at *
      generalize w2.heap.size = tb at *
      have q0 := HS.out.ak.kind
      rw [hk] at q0
      obtain ⟨G, hG, hG2⟩ := HS.out.ex
      have HL := Lib.hid (blines_c G b X h w3 hG)
      clear hG hG2
      generalize Bs.lineB X h = rv at *
      go_wp2_with fail
      refine HL.out.mono ?_
      rintro e w4 ⟨rfl, hb4⟩
      have HS4 := Lib.hid (HS.out.low HK.out hb4)
      have HT := Lib.hid (HS4.out.tell HK.out rv)
      obtain ⟨qc, qf⟩ := HS4.out.cell
      have q0 := HS4.out.ak.kind
      clear hb4 HL HS
      go_upto_region 18 with fail
      clear qc qf HS4
      generalize w4.setCell ⟨tb, 0, none⟩ (.int .u64 rv) = wz at *
      obtain ⟨q, hq⟩ : ∃ q, (Ut.cause X.u != 1) = q := ⟨_, rfl⟩
      have HW := Lib.hid (show Bs.wired X = { X with p := Pc.wireW X.n X.p 10 q } by unfold Bs.wired; rw [hq])
      have HQQ := Lib.hid hq
      clear hq
      go_upto_region 18 with fail
      obtain ⟨G, hG, hG2⟩ := HT.out.ex
      obtain ⟨g, hrow, hpt⟩ := hG.ex
      have c0 : wz.cell? ⟨b, 0, none⟩ = some (.pointer (some ⟨g, 0, none⟩)) := by rw [hrow.cell]; exact buV_u
      have hbd : Below wz.heap.size wz wz.drew := below_dU (Below.refl _ _) 1
      have HGD := Lib.hid (hG.low hbd)
      have HRD := Lib.hid (hrow.low hbd)
      have HPD := Lib.hid (hpt.low hbd)
      have HTD := Lib.hid (HT.out.low HK.out hbd)
      have HG2 := Lib.hid hG2
      have hWd : wz.drew = wz.drew := rfl
      clear hG hG2 hrow hpt hbd HT
      refine wp_region_steady_tail (fun W => W = wz.drew) 8 (by kernel_rfl) (by kernel_rfl) hWd ?_
      iterate 7
        refine steady_val ?_ ?_ (by rfl) (fun W hS => ?_) ?_ ?_
        rotate_left 2
        · subst hS
          go_simp
          exact rfl
        · go_simp
          exact rfl
      refine steady_enter (.bool q) 29 #[.pointer (some ⟨g, 0, none⟩)] ?_ (by rfl) (fun W hS => ?_) (fun W hS => (by subst hS; exact (uline_c HPD.out).mono (by rintro e w' ⟨rfl, rfl⟩; exact ⟨by rw [HQQ.out], rfl⟩))) ?_ ?_
      rotate_left 1
      · subst hS
        go_simp
      · go_simp
        exact rfl
      refine steady_nil ?_
      rintro W rfl
      simp only [List.drop_succ_cons, List.drop_zero]
      try clear q4
      try clear q0
      clear hWd c0
      go_wp2_with fail
      refine (Bp.pwire_c (S := ⟨.pointer (some ⟨g, 0, none⟩), (X).c, HGD.out.okc.len⟩) (some ⟨b, 20, none⟩) (X).n (X).p 10 (by omega) (by omega) q wz.drew (.inr ⟨b, rfl, ⟨HRD.out, HGD.out.okp⟩⟩)).mono ?_
      rintro e w9 ⟨rfl, hp9, ho9⟩
      have HF := Lib.hid (HTD.out.by_ HK.out HG2.out (BuQ.of_p HGD.out HPD.out hp9 ho9))
      clear hp9 ho9 HGD HRD HPD HTD HG2
      go_wp2_with (first | (refine wpList_load_row rfl ANT _ rfl tb rfl ANT _ (0, 0) _ HF.out.t Tryz.underlying57 rfl (iAN _) ?_) | (refine wpList_store_row rfl ANT _ _ rfl (w.heap.size + 1) (anB (rv)) (by kernel_rfl) (by kernel_rfl) ANT (anB 0) HF.out.r (iAN _) rfl (anB_one _) ?_))
      exact bodyPost_ret (results_cb ANT Tryz.results7 _ _ (w.heap.size + 1) _ _ rfl rfl (run_loadVar_row _ _ ANT ANT _ (0, 0) _ (HF.out.r.row (anB (rv))) Tryz.underlying57 rfl (iAN _))) rfl ⟨by rw [HV.out]; rfl, by rw [HY.out, HW.out]; exact HF.out.done HK.out _⟩
  · have hm : Bs.mayB X.n a = true := by unfold Bs.mayB Bs.isK Bs.otherK; rw [hk]; rfl
    have HG := Lib.hid (show Bs.goB X h a = true by unfold Bs.goB; rw [hm, hk]; rfl)
    rw [show Bs.doV X h a = Bs.told X h a by unfold Bs.doV; rw [HG.out]; rfl, show Bs.doX X h a = Bs.wired (Bs.step X a) by unfold Bs.doX; rw [HG.out]; rfl, HG.out]
    have HV := Lib.hid (show Bs.told X h a = 0 by unfold Bs.told; rw [hk]; rfl)
    have HY := Lib.hid (show Bs.wired (Bs.step X a) = Bs.wired ({ X with c := Ct.tickC X.n X.c (wrap64 a.data) }) by unfold Bs.step; rw [hk]; rfl)
    go_enter Tryz.func7, Tryz.ntmps7
    go_upto_region 1 with fail
    generalize ((w.alloc (.cells a.cells AKT)).alloc (.cells (anB 0) ANT)) = w1 at *
    have HM := Lib.hid (may_c X.n b a HIN.out.size w1 (HBU.out.low HBE.out).n1)
    rw [hm] at HM
    go_wp2_with (refine wpList_load_row rfl AKT _ rfl w.heap.size rfl AKT _ (0, 0) _ HA.out.cs Tryz.underlying31 rfl info_AK ?_)
    refine HM.out.mono ?_
    rintro e w2 ⟨rfl, hb2⟩
    have HB2 := Lib.hid (HBE.out.trans (hb2.mono HBE.out.size))
    have HA2 := Lib.hid (HA.out.low hb2)
    have HR2 := Lib.hid (HR.out.low hb2)
    clear hb2 HM HBE HA HR
    have q0 := HA2.out.kind
    clear hm
    rw [hk] at q0
    go_upto_region 4 with fail
    have hb3 : Below w2.heap.size w2 (w2.alloc (.cells (anB 0) ANT)) := (Below.refl _ _).alloc (Nat.le_refl _) _
    have hsz : (w2.alloc (.cells (anB 0) ANT)).heap.size = w2.heap.size + 1 := by simp
    have hlr := HR2.out.lt
    have HK := Lib.hid (show DoK F w (w2.alloc (.cells (anB 0) ANT)) b (w.heap.size + 1) w2.heap.size from ⟨HBU.out.lo, hbl, ⟨by omega, by omega⟩, ⟨by omega, by omega⟩⟩)
    have HS := Lib.hid (show DoS F w (w2.alloc (.cells (anB 0) ANT)) (w2.alloc (.cells (anB 0) ANT)) b (w.heap.size + 1) w2.heap.size a X 0 from ⟨⟨F, HBU.out.low (HB2.out.trans (hb3.mono HB2.out.size)), fun _ hk => .inl hk⟩, Chg.of_below (HB2.out.trans (hb3.mono HB2.out.size)), HA2.out.low hb3, HR2.out.low hb3, CsAt.new _ _ _, Nat.le_refl _⟩)
    clear hb3 hsz hlr q0 HA2 HR2 HB2 hz
    generalize w2.alloc (.cells (anB 0) ANT) = w3 at *
    generalize w2.heap.size = tb at *
    have q0 := HS.out.ak.kind
    rw [hk] at q0
    obtain ⟨G, hG, hG2⟩ := HS.out.ex
    obtain ⟨g, hrow, hpt⟩ := hG.ex
    have c0 : w3.cell? ⟨b, 0, none⟩ = some (.pointer (some ⟨g, 0, none⟩)) := by rw [hrow.cell]; exact buV_u
    have q6 := HS.out.ak.data
    have q4 := HS.out.ak.size
    have q8 := HS.out.ak.live
    have hbd : Below w3.heap.size w3 w3.drew := below_dU (Below.refl _ _) 1
    have HGD := Lib.hid (hG.low hbd)
    have HRD := Lib.hid (hrow.low hbd)
    have HPD := Lib.hid (hpt.low hbd)
    have HSD := Lib.hid (HS.out.low HK.out hbd)
    have HG3 := Lib.hid hG2
    have hWd : w3.drew = w3.drew := rfl
    clear hG hG2 hrow hpt hbd HS
    go_upto_region 12 with fail
    refine wp_region_steady_tail (fun W => W = w3.drew) 6 (by kernel_rfl) (by kernel_rfl) hWd ?_
    iterate 6
      refine steady_val ?_ ?_ (by rfl) (fun W hS => ?_) ?_ ?_
      rotate_left 2
      · subst hS
        go_simp
        exact rfl
      · go_simp
        exact rfl
    refine steady_nil ?_
    rintro W rfl
    simp only [List.drop_succ_cons, List.drop_zero]
    clear hWd c0 q0 q4 q6 q8
    go_wp2_with fail
    refine (Bm.tick_c (S := (.pointer (some ⟨g, 0, none⟩), X.p)) (some ⟨b, 2, none⟩) X.n X.c (wrap64 a.data) (Bs.wrap_i a.data).1 (Bs.wrap_i a.data).2 w3.drew (.inr ⟨b, rfl, ⟨HRD.out, HGD.out.okc⟩⟩)).mono ?_
    rintro e wz ⟨rfl, hp4, ho4⟩
    have HT := Lib.hid (HSD.out.by_ HK.out HG3.out (BuQ.of_c HGD.out HPD.out hp4 ho4))
    clear HSD HG3
    obtain ⟨Yv, hYv⟩ : ∃ y, ({ X with c := Ct.tickC X.n X.c (wrap64 a.data) } : Bs.B) = y := ⟨_, rfl⟩
    rw [hYv] at HT HY
    obtain ⟨q, hq⟩ : ∃ q, (Ut.cause Yv.u != 1) = q := ⟨_, rfl⟩
    have HW := Lib.hid (show Bs.wired Yv = { Yv with p := Pc.wireW Yv.n Yv.p 10 q } by unfold Bs.wired; rw [hq])
    have HQQ := Lib.hid hq
    clear hYv hq
    go_upto_region 18 with fail
    obtain ⟨G, hG, hG2⟩ := HT.out.ex
    obtain ⟨g, hrow, hpt⟩ := hG.ex
    have c0 : wz.cell? ⟨b, 0, none⟩ = some (.pointer (some ⟨g, 0, none⟩)) := by rw [hrow.cell]; exact buV_u
    have hbd : Below wz.heap.size wz wz.drew := below_dU (Below.refl _ _) 1
    have HGD := Lib.hid (hG.low hbd)
    have HRD := Lib.hid (hrow.low hbd)
    have HPD := Lib.hid (hpt.low hbd)
    have HTD := Lib.hid (HT.out.low HK.out hbd)
    have HG2 := Lib.hid hG2
    have hWd : wz.drew = wz.drew := rfl
    clear hG hG2 hrow hpt hbd HT
    refine wp_region_steady_tail (fun W => W = wz.drew) 8 (by kernel_rfl) (by kernel_rfl) hWd ?_
    iterate 7
      refine steady_val ?_ ?_ (by rfl) (fun W hS => ?_) ?_ ?_
      rotate_left 2
      · subst hS
        go_simp
        exact rfl
      · go_simp
        exact rfl
    refine steady_enter (.bool q) 29 #[.pointer (some ⟨g, 0, none⟩)] ?_ (by rfl) (fun W hS => ?_) (fun W hS => (by subst hS; exact (uline_c HPD.out).mono (by rintro e w' ⟨rfl, rfl⟩; exact ⟨by rw [HQQ.out], rfl⟩))) ?_ ?_
    rotate_left 1
    · subst hS
      go_simp
    · go_simp
      exact rfl
    refine steady_nil ?_
    rintro W rfl
    simp only [List.drop_succ_cons, List.drop_zero]
    try clear q4
    try clear q0
    clear hWd c0
    go_wp2_with fail
    refine (Bp.pwire_c (S := ⟨.pointer (some ⟨g, 0, none⟩), (Yv).c, HGD.out.okc.len⟩) (some ⟨b, 20, none⟩) (Yv).n (Yv).p 10 (by omega) (by omega) q wz.drew (.inr ⟨b, rfl, ⟨HRD.out, HGD.out.okp⟩⟩)).mono ?_
    rintro e w9 ⟨rfl, hp9, ho9⟩
    have HF := Lib.hid (HTD.out.by_ HK.out HG2.out (BuQ.of_p HGD.out HPD.out hp9 ho9))
    clear hp9 ho9 HGD HRD HPD HTD HG2
    go_wp2_with (first | (refine wpList_load_row rfl ANT _ rfl tb rfl ANT _ (0, 0) _ HF.out.t Tryz.underlying57 rfl (iAN _) ?_) | (refine wpList_store_row rfl ANT _ _ rfl (w.heap.size + 1) (anB (0)) (by kernel_rfl) (by kernel_rfl) ANT (anB 0) HF.out.r (iAN _) rfl (anB_one _) ?_))
    exact bodyPost_ret (results_cb ANT Tryz.results7 _ _ (w.heap.size + 1) _ _ rfl rfl (run_loadVar_row _ _ ANT ANT _ (0, 0) _ (HF.out.r.row (anB (0))) Tryz.underlying57 rfl (iAN _))) rfl ⟨by rw [HV.out]; rfl, by rw [HY.out, HW.out]; exact HF.out.done HK.out _⟩
  · have hm : Bs.mayB X.n a = true := by unfold Bs.mayB Bs.isK Bs.otherK; rw [hk]; rfl
    have HG := Lib.hid (show Bs.goB X h a = true by unfold Bs.goB; rw [hm, hk]; rfl)
    rw [show Bs.doV X h a = Bs.told X h a by unfold Bs.doV; rw [HG.out]; rfl, show Bs.doX X h a = Bs.wired (Bs.step X a) by unfold Bs.doX; rw [HG.out]; rfl, HG.out]
    have HV := Lib.hid (show Bs.told X h a = 0 by unfold Bs.told; rw [hk]; rfl)
    have HY := Lib.hid (show Bs.wired (Bs.step X a) = Bs.wired ({ X with u := Ut.inS X.u (a.data % 256) }) by unfold Bs.step; rw [hk]; rfl)
    go_enter Tryz.func7, Tryz.ntmps7
    go_upto_region 1 with fail
    generalize ((w.alloc (.cells a.cells AKT)).alloc (.cells (anB 0) ANT)) = w1 at *
    have HM := Lib.hid (may_c X.n b a HIN.out.size w1 (HBU.out.low HBE.out).n1)
    rw [hm] at HM
    go_wp2_with (refine wpList_load_row rfl AKT _ rfl w.heap.size rfl AKT _ (0, 0) _ HA.out.cs Tryz.underlying31 rfl info_AK ?_)
    refine HM.out.mono ?_
    rintro e w2 ⟨rfl, hb2⟩
    have HB2 := Lib.hid (HBE.out.trans (hb2.mono HBE.out.size))
    have HA2 := Lib.hid (HA.out.low hb2)
    have HR2 := Lib.hid (HR.out.low hb2)
    clear hb2 HM HBE HA HR
    have q0 := HA2.out.kind
    clear hm
    rw [hk] at q0
    go_upto_region 4 with fail
    have hb3 : Below w2.heap.size w2 (w2.alloc (.cells (anB 0) ANT)) := (Below.refl _ _).alloc (Nat.le_refl _) _
    have hsz : (w2.alloc (.cells (anB 0) ANT)).heap.size = w2.heap.size + 1 := by simp
    have hlr := HR2.out.lt
    have HK := Lib.hid (show DoK F w (w2.alloc (.cells (anB 0) ANT)) b (w.heap.size + 1) w2.heap.size from ⟨HBU.out.lo, hbl, ⟨by omega, by omega⟩, ⟨by omega, by omega⟩⟩)
    have HS := Lib.hid (show DoS F w (w2.alloc (.cells (anB 0) ANT)) (w2.alloc (.cells (anB 0) ANT)) b (w.heap.size + 1) w2.heap.size a X 0 from ⟨⟨F, HBU.out.low (HB2.out.trans (hb3.mono HB2.out.size)), fun _ hk => .inl hk⟩, Chg.of_below (HB2.out.trans (hb3.mono HB2.out.size)), HA2.out.low hb3, HR2.out.low hb3, CsAt.new _ _ _, Nat.le_refl _⟩)
    clear hb3 hsz hlr q0 HA2 HR2 HB2 hz
    generalize w2.alloc (.cells (anB 0) ANT) = w3 at *
    generalize w2.heap.size = tb at *
    have q0 := HS.out.ak.kind
    rw [hk] at q0
    obtain ⟨G, hG, hG2⟩ := HS.out.ex
    obtain ⟨g, hrow, hpt⟩ := hG.ex
    have c0 : w3.cell? ⟨b, 0, none⟩ = some (.pointer (some ⟨g, 0, none⟩)) := by rw [hrow.cell]; exact buV_u
    have q6 := HS.out.ak.data
    have q4 := HS.out.ak.size
    have q8 := HS.out.ak.live
    have hbd : Below w3.heap.size w3 w3.drew := below_dU (Below.refl _ _) 1
    have HGD := Lib.hid (hG.low hbd)
    have HRD := Lib.hid (hrow.low hbd)
    have HPD := Lib.hid (hpt.low hbd)
    have HSD := Lib.hid (HS.out.low HK.out hbd)
    have HG3 := Lib.hid hG2
    have hWd : w3.drew = w3.drew := rfl
    clear hG hG2 hrow hpt hbd HS
    go_upto_region 14 with fail
    refine wp_region_steady_tail (fun W => W = w3.drew) 7 (by kernel_rfl) (by kernel_rfl) hWd ?_
    have ew : IntKind.u8.wrap a.data = a.data % 256 := by rw [IntKind.wrap_u8]
    iterate 7
      refine steady_val ?_ ?_ (by rfl) (fun W hS => ?_) ?_ ?_
      rotate_left 2
      · subst hS
        go_simp
        exact rfl
      · go_simp
        exact rfl
    refine steady_nil ?_
    rintro W rfl
    simp only [List.drop_succ_cons, List.drop_zero]
    clear hWd c0 q0 q4 q6 q8
    go_wp2_with fail
    refine (uinput_c (x := a.data % 256) ⟨by omega, by omega⟩ HPD.out).mono ?_
    rintro e wz ⟨rfl, hq4⟩
    have HT := Lib.hid (HSD.out.by_ HK.out HG3.out (BuQ.of_u HGD.out HRD.out hq4))
    clear HSD HG3
    obtain ⟨Yv, hYv⟩ : ∃ y, ({ X with u := Ut.inS X.u (a.data % 256) } : Bs.B) = y := ⟨_, rfl⟩
    rw [hYv] at HT HY
    obtain ⟨q, hq⟩ : ∃ q, (Ut.cause Yv.u != 1) = q := ⟨_, rfl⟩
    have HW := Lib.hid (show Bs.wired Yv = { Yv with p := Pc.wireW Yv.n Yv.p 10 q } by unfold Bs.wired; rw [hq])
    have HQQ := Lib.hid hq
    clear hYv hq
    go_upto_region 18 with fail
    obtain ⟨G, hG, hG2⟩ := HT.out.ex
    obtain ⟨g, hrow, hpt⟩ := hG.ex
    have c0 : wz.cell? ⟨b, 0, none⟩ = some (.pointer (some ⟨g, 0, none⟩)) := by rw [hrow.cell]; exact buV_u
    have hbd : Below wz.heap.size wz wz.drew := below_dU (Below.refl _ _) 1
    have HGD := Lib.hid (hG.low hbd)
    have HRD := Lib.hid (hrow.low hbd)
    have HPD := Lib.hid (hpt.low hbd)
    have HTD := Lib.hid (HT.out.low HK.out hbd)
    have HG2 := Lib.hid hG2
    have hWd : wz.drew = wz.drew := rfl
    clear hG hG2 hrow hpt hbd HT
    refine wp_region_steady_tail (fun W => W = wz.drew) 8 (by kernel_rfl) (by kernel_rfl) hWd ?_
    iterate 7
      refine steady_val ?_ ?_ (by rfl) (fun W hS => ?_) ?_ ?_
      rotate_left 2
      · subst hS
        go_simp
        exact rfl
      · go_simp
        exact rfl
    refine steady_enter (.bool q) 29 #[.pointer (some ⟨g, 0, none⟩)] ?_ (by rfl) (fun W hS => ?_) (fun W hS => (by subst hS; exact (uline_c HPD.out).mono (by rintro e w' ⟨rfl, rfl⟩; exact ⟨by rw [HQQ.out], rfl⟩))) ?_ ?_
    rotate_left 1
    · subst hS
      go_simp
    · go_simp
      exact rfl
    refine steady_nil ?_
    rintro W rfl
    simp only [List.drop_succ_cons, List.drop_zero]
    try clear q4
    try clear q0
    clear hWd c0
    go_wp2_with fail
    refine (Bp.pwire_c (S := ⟨.pointer (some ⟨g, 0, none⟩), (Yv).c, HGD.out.okc.len⟩) (some ⟨b, 20, none⟩) (Yv).n (Yv).p 10 (by omega) (by omega) q wz.drew (.inr ⟨b, rfl, ⟨HRD.out, HGD.out.okp⟩⟩)).mono ?_
    rintro e w9 ⟨rfl, hp9, ho9⟩
    have HF := Lib.hid (HTD.out.by_ HK.out HG2.out (BuQ.of_p HGD.out HPD.out hp9 ho9))
    clear hp9 ho9 HGD HRD HPD HTD HG2
    go_wp2_with (first | (refine wpList_load_row rfl ANT _ rfl tb rfl ANT _ (0, 0) _ HF.out.t Tryz.underlying57 rfl (iAN _) ?_) | (refine wpList_store_row rfl ANT _ _ rfl (w.heap.size + 1) (anB (0)) (by kernel_rfl) (by kernel_rfl) ANT (anB 0) HF.out.r (iAN _) rfl (anB_one _) ?_))
    exact bodyPost_ret (results_cb ANT Tryz.results7 _ _ (w.heap.size + 1) _ _ rfl rfl (run_loadVar_row _ _ ANT ANT _ (0, 0) _ (HF.out.r.row (anB (0))) Tryz.underlying57 rfl (iAN _))) rfl ⟨by rw [HV.out]; rfl, by rw [HY.out, HW.out]; exact HF.out.done HK.out _⟩
  · have hm : Bs.mayB X.n a = true := by unfold Bs.mayB Bs.isK Bs.otherK; rw [hk]; rfl
    have HG := Lib.hid (show Bs.goB X h a = true by unfold Bs.goB; rw [hm, hk]; rfl)
    rw [show Bs.doV X h a = Bs.told X h a by unfold Bs.doV; rw [HG.out]; rfl, show Bs.doX X h a = Bs.wired (Bs.step X a) by unfold Bs.doX; rw [HG.out]; rfl, HG.out]
    by_cases hz10 : a.size = 10
    · have HV := Lib.hid (show Bs.told X h a = 0 by unfold Bs.told; rw [hk]; rfl)
      have HY := Lib.hid (show Bs.wired (Bs.step X a) = Bs.wired (X) by unfold Bs.step; rw [hk]; simp [hz10])
      have g10 : (a.size != 10) = false := by simpa using hz10
      go_enter Tryz.func7, Tryz.ntmps7
      go_upto_region 1 with fail
      generalize ((w.alloc (.cells a.cells AKT)).alloc (.cells (anB 0) ANT)) = w1 at *
      have HM := Lib.hid (may_c X.n b a HIN.out.size w1 (HBU.out.low HBE.out).n1)
      rw [hm] at HM
      go_wp2_with (refine wpList_load_row rfl AKT _ rfl w.heap.size rfl AKT _ (0, 0) _ HA.out.cs Tryz.underlying31 rfl info_AK ?_)
      refine HM.out.mono ?_
      rintro e w2 ⟨rfl, hb2⟩
      have HB2 := Lib.hid (HBE.out.trans (hb2.mono HBE.out.size))
      have HA2 := Lib.hid (HA.out.low hb2)
      have HR2 := Lib.hid (HR.out.low hb2)
      clear hb2 HM HBE HA HR
      have q0 := HA2.out.kind
      clear hm hz10
      rw [hk] at q0
      go_upto_region 4 with fail
      have hb3 : Below w2.heap.size w2 (w2.alloc (.cells (anB 0) ANT)) := (Below.refl _ _).alloc (Nat.le_refl _) _
      have hsz : (w2.alloc (.cells (anB 0) ANT)).heap.size = w2.heap.size + 1 := by simp
      have hlr := HR2.out.lt
      have HK := Lib.hid (show DoK F w (w2.alloc (.cells (anB 0) ANT)) b (w.heap.size + 1) w2.heap.size from ⟨HBU.out.lo, hbl, ⟨by omega, by omega⟩, ⟨by omega, by omega⟩⟩)
      have HS := Lib.hid (show DoS F w (w2.alloc (.cells (anB 0) ANT)) (w2.alloc (.cells (anB 0) ANT)) b (w.heap.size + 1) w2.heap.size a X 0 from ⟨⟨F, HBU.out.low (HB2.out.trans (hb3.mono HB2.out.size)), fun _ hk => .inl hk⟩, Chg.of_below (HB2.out.trans (hb3.mono HB2.out.size)), HA2.out.low hb3, HR2.out.low hb3, CsAt.new _ _ _, Nat.le_refl _⟩)
      clear hb3 hsz hlr q0 HA2 HR2 HB2 hz
      generalize w2.alloc (.cells (anB 0) ANT) = w3 at *
      generalize w2.heap.size = tb at *
      have q0 := HS.out.ak.kind
      rw [hk] at q0
      have q4 := HS.out.ak.size
      have HT := HS
      clear HS
      obtain ⟨q, hq⟩ : ∃ q, (Ut.cause X.u != 1) = q := ⟨_, rfl⟩
      have HW := Lib.hid (show Bs.wired X = { X with p := Pc.wireW X.n X.p 10 q } by unfold Bs.wired; rw [hq])
      have HQQ := Lib.hid hq
      clear hq
      go_upto_region 18 with fail
      obtain ⟨G, hG, hG2⟩ := HT.out.ex
      obtain ⟨g, hrow, hpt⟩ := hG.ex
      have c0 : w3.cell? ⟨b, 0, none⟩ = some (.pointer (some ⟨g, 0, none⟩)) := by rw [hrow.cell]; exact buV_u
      have hbd : Below w3.heap.size w3 w3.drew := below_dU (Below.refl _ _) 1
      have HGD := Lib.hid (hG.low hbd)
      have HRD := Lib.hid (hrow.low hbd)
      have HPD := Lib.hid (hpt.low hbd)
      have HTD := Lib.hid (HT.out.low HK.out hbd)
      have HG2 := Lib.hid hG2
      have hWd : w3.drew = w3.drew := rfl
      clear hG hG2 hrow hpt hbd HT
      refine wp_region_steady_tail (fun W => W = w3.drew) 8 (by kernel_rfl) (by kernel_rfl) hWd ?_
      iterate 7
        refine steady_val ?_ ?_ (by rfl) (fun W hS => ?_) ?_ ?_
        rotate_left 2
        · subst hS
          go_simp
          exact rfl
        · go_simp
          exact rfl
      refine steady_enter (.bool q) 29 #[.pointer (some ⟨g, 0, none⟩)] ?_ (by rfl) (fun W hS => ?_) (fun W hS => (by subst hS; exact (uline_c HPD.out).mono (by rintro e w' ⟨rfl, rfl⟩; exact ⟨by rw [HQQ.out], rfl⟩))) ?_ ?_
      rotate_left 1
      · subst hS
        go_simp
      · go_simp
        exact rfl
      refine steady_nil ?_
      rintro W rfl
      simp only [List.drop_succ_cons, List.drop_zero]
      try clear q4
      try clear q0
      clear hWd c0
      go_wp2_with fail
      refine (Bp.pwire_c (S := ⟨.pointer (some ⟨g, 0, none⟩), (X).c, HGD.out.okc.len⟩) (some ⟨b, 20, none⟩) (X).n (X).p 10 (by omega) (by omega) q w3.drew (.inr ⟨b, rfl, ⟨HRD.out, HGD.out.okp⟩⟩)).mono ?_
      rintro e w9 ⟨rfl, hp9, ho9⟩
      have HF := Lib.hid (HTD.out.by_ HK.out HG2.out (BuQ.of_p HGD.out HPD.out hp9 ho9))
      clear hp9 ho9 HGD HRD HPD HTD HG2
      go_wp2_with (first | (refine wpList_load_row rfl ANT _ rfl tb rfl ANT _ (0, 0) _ HF.out.t Tryz.underlying57 rfl (iAN _) ?_) | (refine wpList_store_row rfl ANT _ _ rfl (w.heap.size + 1) (anB (0)) (by kernel_rfl) (by kernel_rfl) ANT (anB 0) HF.out.r (iAN _) rfl (anB_one _) ?_))
      exact bodyPost_ret (results_cb ANT Tryz.results7 _ _ (w.heap.size + 1) _ _ rfl rfl (run_loadVar_row _ _ ANT ANT _ (0, 0) _ (HF.out.r.row (anB (0))) Tryz.underlying57 rfl (iAN _))) rfl ⟨by rw [HV.out]; rfl, by rw [HY.out, HW.out]; exact HF.out.done HK.out _⟩
    · have HV := Lib.hid (show Bs.told X h a = 0 by unfold Bs.told; rw [hk]; rfl)
      have HY := Lib.hid (show Bs.wired (Bs.step X a) = Bs.wired ({ X with p := Pc.wireW X.n X.p a.size a.live }) by unfold Bs.step; rw [hk]; simp [hz10])
      have g10 : (a.size != 10) = true := by simpa using hz10
      go_enter Tryz.func7, Tryz.ntmps7
      go_upto_region 1 with fail
      generalize ((w.alloc (.cells a.cells AKT)).alloc (.cells (anB 0) ANT)) = w1 at *
      have HM := Lib.hid (may_c X.n b a HIN.out.size w1 (HBU.out.low HBE.out).n1)
      rw [hm] at HM
      go_wp2_with (refine wpList_load_row rfl AKT _ rfl w.heap.size rfl AKT _ (0, 0) _ HA.out.cs Tryz.underlying31 rfl info_AK ?_)
      refine HM.out.mono ?_
      rintro e w2 ⟨rfl, hb2⟩
      have HB2 := Lib.hid (HBE.out.trans (hb2.mono HBE.out.size))
      have HA2 := Lib.hid (HA.out.low hb2)
      have HR2 := Lib.hid (HR.out.low hb2)
      clear hb2 HM HBE HA HR
      have q0 := HA2.out.kind
      clear hm hz10
      rw [hk] at q0
      go_upto_region 4 with fail
      have hb3 : Below w2.heap.size w2 (w2.alloc (.cells (anB 0) ANT)) := (Below.refl _ _).alloc (Nat.le_refl _) _
      have hsz : (w2.alloc (.cells (anB 0) ANT)).heap.size = w2.heap.size + 1 := by simp
      have hlr := HR2.out.lt
      have HK := Lib.hid (show DoK F w (w2.alloc (.cells (anB 0) ANT)) b (w.heap.size + 1) w2.heap.size from ⟨HBU.out.lo, hbl, ⟨by omega, by omega⟩, ⟨by omega, by omega⟩⟩)
      have HS := Lib.hid (show DoS F w (w2.alloc (.cells (anB 0) ANT)) (w2.alloc (.cells (anB 0) ANT)) b (w.heap.size + 1) w2.heap.size a X 0 from ⟨⟨F, HBU.out.low (HB2.out.trans (hb3.mono HB2.out.size)), fun _ hk => .inl hk⟩, Chg.of_below (HB2.out.trans (hb3.mono HB2.out.size)), HA2.out.low hb3, HR2.out.low hb3, CsAt.new _ _ _, Nat.le_refl _⟩)
      clear hb3 hsz hlr q0 HA2 HR2 HB2 hz
      generalize w2.alloc (.cells (anB 0) ANT) = w3 at *
      generalize w2.heap.size = tb at *
      have q0 := HS.out.ak.kind
      rw [hk] at q0
      obtain ⟨G, hG, hG2⟩ := HS.out.ex
      obtain ⟨g, hrow, hpt⟩ := hG.ex
      have c0 : w3.cell? ⟨b, 0, none⟩ = some (.pointer (some ⟨g, 0, none⟩)) := by rw [hrow.cell]; exact buV_u
      have q6 := HS.out.ak.data
      have q4 := HS.out.ak.size
      have q8 := HS.out.ak.live
      have hbd : Below w3.heap.size w3 w3.drew := below_dU (Below.refl _ _) 1
      have HGD := Lib.hid (hG.low hbd)
      have HRD := Lib.hid (hrow.low hbd)
      have HPD := Lib.hid (hpt.low hbd)
      have HSD := Lib.hid (HS.out.low HK.out hbd)
      have HG3 := Lib.hid hG2
      have hWd : w3.drew = w3.drew := rfl
      clear hG hG2 hrow hpt hbd HS
      go_upto_region 17 with fail
      refine wp_region_steady_tail (fun W => W = w3.drew) 7 (by kernel_rfl) (by kernel_rfl) hWd ?_
      iterate 7
        refine steady_val ?_ ?_ (by rfl) (fun W hS => ?_) ?_ ?_
        rotate_left 2
        · subst hS
          go_simp
          exact rfl
        · go_simp
          exact rfl
      refine steady_nil ?_
      rintro W rfl
      simp only [List.drop_succ_cons, List.drop_zero]
      clear hWd c0 q0 q4 q6 q8
      go_wp2_with fail
      refine (Bp.pwire_c (S := ⟨.pointer (some ⟨g, 0, none⟩), X.c, HGD.out.okc.len⟩) (some ⟨b, 20, none⟩) X.n X.p a.size HIN.out.size.1 HIN.out.size.2 a.live w3.drew (.inr ⟨b, rfl, ⟨HRD.out, HGD.out.okp⟩⟩)).mono ?_
      rintro e wz ⟨rfl, hp4, ho4⟩
      have HT := Lib.hid (HSD.out.by_ HK.out HG3.out (BuQ.of_p HGD.out HPD.out hp4 ho4))
      clear HSD HG3
      obtain ⟨Yv, hYv⟩ : ∃ y, ({ X with p := Pc.wireW X.n X.p a.size a.live } : Bs.B) = y := ⟨_, rfl⟩
      rw [hYv] at HT HY
      obtain ⟨q, hq⟩ : ∃ q, (Ut.cause Yv.u != 1) = q := ⟨_, rfl⟩
      have HW := Lib.hid (show Bs.wired Yv = { Yv with p := Pc.wireW Yv.n Yv.p 10 q } by unfold Bs.wired; rw [hq])
      have HQQ := Lib.hid hq
      clear hYv hq
      go_upto_region 18 with fail
      obtain ⟨G, hG, hG2⟩ := HT.out.ex
      obtain ⟨g, hrow, hpt⟩ := hG.ex
      have c0 : wz.cell? ⟨b, 0, none⟩ = some (.pointer (some ⟨g, 0, none⟩)) := by rw [hrow.cell]; exact buV_u
      have hbd : Below wz.heap.size wz wz.drew := below_dU (Below.refl _ _) 1
      have HGD := Lib.hid (hG.low hbd)
      have HRD := Lib.hid (hrow.low hbd)
      have HPD := Lib.hid (hpt.low hbd)
      have HTD := Lib.hid (HT.out.low HK.out hbd)
      have HG2 := Lib.hid hG2
      have hWd : wz.drew = wz.drew := rfl
      clear hG hG2 hrow hpt hbd HT
      refine wp_region_steady_tail (fun W => W = wz.drew) 8 (by kernel_rfl) (by kernel_rfl) hWd ?_
      iterate 7
        refine steady_val ?_ ?_ (by rfl) (fun W hS => ?_) ?_ ?_
        rotate_left 2
        · subst hS
          go_simp
          exact rfl
        · go_simp
          exact rfl
      refine steady_enter (.bool q) 29 #[.pointer (some ⟨g, 0, none⟩)] ?_ (by rfl) (fun W hS => ?_) (fun W hS => (by subst hS; exact (uline_c HPD.out).mono (by rintro e w' ⟨rfl, rfl⟩; exact ⟨by rw [HQQ.out], rfl⟩))) ?_ ?_
      rotate_left 1
      · subst hS
        go_simp
      · go_simp
        exact rfl
      refine steady_nil ?_
      rintro W rfl
      simp only [List.drop_succ_cons, List.drop_zero]
      try clear q4
      try clear q0
      clear hWd c0
      go_wp2_with fail
      refine (Bp.pwire_c (S := ⟨.pointer (some ⟨g, 0, none⟩), (Yv).c, HGD.out.okc.len⟩) (some ⟨b, 20, none⟩) (Yv).n (Yv).p 10 (by omega) (by omega) q wz.drew (.inr ⟨b, rfl, ⟨HRD.out, HGD.out.okp⟩⟩)).mono ?_
      rintro e w9 ⟨rfl, hp9, ho9⟩
      have HF := Lib.hid (HTD.out.by_ HK.out HG2.out (BuQ.of_p HGD.out HPD.out hp9 ho9))
      clear hp9 ho9 HGD HRD HPD HTD HG2
      go_wp2_with (first | (refine wpList_load_row rfl ANT _ rfl tb rfl ANT _ (0, 0) _ HF.out.t Tryz.underlying57 rfl (iAN _) ?_) | (refine wpList_store_row rfl ANT _ _ rfl (w.heap.size + 1) (anB (0)) (by kernel_rfl) (by kernel_rfl) ANT (anB 0) HF.out.r (iAN _) rfl (anB_one _) ?_))
      exact bodyPost_ret (results_cb ANT Tryz.results7 _ _ (w.heap.size + 1) _ _ rfl rfl (run_loadVar_row _ _ ANT ANT _ (0, 0) _ (HF.out.r.row (anB (0))) Tryz.underlying57 rfl (iAN _))) rfl ⟨by rw [HV.out]; rfl, by rw [HY.out, HW.out]; exact HF.out.done HK.out _⟩
  · obtain ⟨k1, k2, k3, k4, k5, k6⟩ := hk
    have hm : Bs.mayB X.n a = false := by unfold Bs.mayB Bs.isK Bs.otherK; rw [show (a.kind == 9) = false by simpa using k1, show (a.kind == 10) = false by simpa using k2, show (a.kind == 11) = false by simpa using k3, show (a.kind == 18) = false by simpa using k4, show (a.kind == 19) = false by simpa using k5, show (a.kind == 20) = false by simpa using k6]; rfl
    have HG := Lib.hid (show Bs.goB X h a = false by unfold Bs.goB; rw [hm]; rfl)
    rw [show Bs.doV X h a = 0 by unfold Bs.doV; rw [HG.out]; rfl, show Bs.doX X h a = X by unfold Bs.doX; rw [HG.out]; rfl, HG.out]
    go_enter Tryz.func7, Tryz.ntmps7
    go_upto_region 1 with fail
    generalize ((w.alloc (.cells a.cells AKT)).alloc (.cells (anB 0) ANT)) = w1 at *
    have HM := Lib.hid (may_c X.n b a HIN.out.size w1 (HBU.out.low HBE.out).n1)
    rw [hm] at HM
    go_wp2_with (refine wpList_load_row rfl AKT _ rfl w.heap.size rfl AKT _ (0, 0) _ HA.out.cs Tryz.underlying31 rfl info_AK ?_)
    refine HM.out.mono ?_
    rintro e w2 ⟨rfl, hb2⟩
    have HB2 := Lib.hid (HBE.out.trans (hb2.mono HBE.out.size))
    have HA2 := Lib.hid (HA.out.low hb2)
    have HR2 := Lib.hid (HR.out.low hb2)
    clear hb2 HM HBE HA HR
    have q0 := HA2.out.kind
    clear hm k1 k2 k3 k4 k5 k6
    go_upto_region 2 with fail
    clear hz
    go_wp2_with (refine wpList_store_row rfl ANT _ _ rfl (w.heap.size + 1) (anB 0) (by kernel_rfl) (by kernel_rfl) ANT (anB 0) HR2.out (iAN 0) rfl (anB_one 0) ?_)
    exact bodyPost_ret (results_cb ANT Tryz.results7 _ _ (w.heap.size + 1) _ _ rfl rfl (run_loadVar_row _ _ ANT ANT _ (0, 0) _ (HR2.out.row (anB 0)) Tryz.underlying57 rfl (iAN 0))) rfl ⟨rfl, HBU.out.keepQ (HB2.out.trans ((Chg.of_row (S := fun k => k = w.heap.size + 1) (b := w.heap.size + 1) rfl _).below HB2.out.size (fun k hk => by omega)))⟩
end Go.Proofs.YtfjdalepaacmgaaGreat
set_option maxRecDepth 20000
namespace Go.Proofs.YtfjdalepaacmgaaGreat
open Go.ChangeShapes Go.WideShapes Go.ChangeAt Go.RowKit
namespace Bs
/-- The ask that writes a register; the one of a byte that comes in. -/
abbrev layA (addr size v : Int) : Ak := ⟨10, addr, 0, 0, size, 0, v, 0, false, 0, ⟨false, false, false, 0, 0⟩, ⟨0, 0, 0, 0⟩⟩
abbrev inA (v : Int) : Ak := ⟨19, 0, 0, 0, 0, 0, v, 0, false, 0, ⟨false, false, false, 0, 0⟩, ⟨0, 0, 0, 0⟩⟩
theorem layA_in {addr size v : Int} (ha : 0 ≤ addr ∧ addr ≤ 18446744073709551615) (hs : -9223372036854775808 ≤ size ∧ size ≤ 9223372036854775807) (hv : 0 ≤ v ∧ v ≤ 18446744073709551615) : (layA addr size v).In :=
  ⟨⟨by simp, by simp⟩, ha, ⟨by simp, by simp⟩, ⟨by simp, by simp⟩, hs, ⟨by simp, by simp⟩, hv, ⟨by simp, by simp⟩, ⟨by simp, by simp⟩, by constructor <;> simp, by constructor <;> simp⟩
theorem inA_in {v : Int} (hv : 0 ≤ v ∧ v ≤ 18446744073709551615) : (inA v).In :=
  ⟨⟨by simp, by simp⟩, ⟨by simp, by simp⟩, ⟨by simp, by simp⟩, ⟨by simp, by simp⟩, ⟨by simp, by simp⟩, ⟨by simp, by simp⟩, hv, ⟨by simp, by simp⟩, ⟨by simp, by simp⟩, by constructor <;> simp, by constructor <;> simp⟩
end Bs
set_option maxHeartbeats 8000000 in
theorem lay_c (F : Nat → Prop) (b : Nat) (X : Bs.B) (addr size v : Int) (ha : 0 ≤ addr ∧ addr ≤ 18446744073709551615) (hs : -9223372036854775808 ≤ size ∧ size ≤ 9223372036854775807) (hv : 0 ≤ v ∧ v ≤ 18446744073709551615) (hn : X.u.out.length < 900) (w : World) (hb : Bu F w b X) :
    Calls Tryz.prog 17 #[.pointer (some ⟨b, 0, none⟩), .int .u64 addr, .int .i64 size, .int .u64 v] w fun e w' => e = .returned (.bool (Bs.goB X 0 (Bs.layA addr size v))) ∧ BuQ F w w' b (Bs.doX X 0 (Bs.layA addr size v)) := by
  have HD := Lib.hid (bdo_c F b X 0 (Bs.layA addr size v) (Bs.layA_in ha hs hv) hn w hb)
  have hz := zero_an
  generalize Bs.doX X 0 (Bs.layA addr size v) = Y at *
  generalize Bs.doV X 0 (Bs.layA addr size v) = r at *
  generalize Bs.goB X 0 (Bs.layA addr size v) = g at *
  go_enter Tryz.func17, Tryz.ntmps17
  go_wp2_with fail
  refine HD.out.mono ?_
  rintro e w1 ⟨rfl, hq1⟩
  have HQ := Lib.hid (hq1.low ((Below.refl w1.heap.size w1).alloc (Nat.le_refl _) (Obj.cells (anB r) ANT)))
  clear hq1 HD
  go_upto_region 2 with (refine wpList_storeNew (w0 := w1) rfl ANT _ _ rfl (anB 0) (anB r) ANT (by kernel_rfl) (by kernel_rfl) (iAN _) rfl (anB_one _) ?_)
  clear hz
  go_wp2_with fail
  go_ret
  exact ⟨rfl, HQ.out⟩
namespace Bs
/-- The chapter's example. -/
def lx0 : B := new 1
def lx1 : B := doX lx0 0 (layA 268435457 1 1)
def lx2 : B := doX lx1 0 (layA 201326632 4 1)
def lx3 : B := doX lx2 0 (layA 201334784 4 1024)
def lx4 : B := doX lx3 0 (inA 65)
theorem lx_go : goB lx0 0 (layA 268435457 1 1) = true ∧ goB lx1 0 (layA 201326632 4 1) = true ∧ goB lx2 0 (layA 201334784 4 1024) = true := ⟨by kernel_rfl, by kernel_rfl, by kernel_rfl⟩
theorem lx_out : lx0.u.out.length < 900 ∧ lx1.u.out.length < 900 ∧ lx2.u.out.length < 900 ∧ lx3.u.out.length < 900 := ⟨of_decide_eq_true (by kernel_rfl), of_decide_eq_true (by kernel_rfl), of_decide_eq_true (by kernel_rfl), of_decide_eq_true (by kernel_rfl)⟩
theorem lx_line : lineB lx4 0 = 2048 := by kernel_rfl
end Bs
theorem BuQ.size {F : Nat → Prop} {w w' : World} {b : Nat} {X : Bs.B} (h : BuQ F w w' b X) : w.heap.size ≤ w'.heap.size := h.chg.size
/-- What is done to a bus that lies beyond a world leaves that world as it was. -/
theorem BuQ.below {F : Nat → Prop} {w0 w w' : World} {b : Nat} {X : Bs.B} (h : BuQ F w w' b X) (hb : Below w0.heap.size w0 w) (hF : ∀ k, F k → w0.heap.size ≤ k) (hB : w0.heap.size ≤ b) : Below w0.heap.size w0 w' :=
  hb.trans (h.chg.below hb.size (fun k hk => hk.elim (hF k) (fun e => e ▸ hB)))
/-- A bus that is made and used by a law. -/
structure BuL (w0 w : World) (b : Nat) (X : Bs.B) : Prop where
  ex : ∃ F, Bu F w b X ∧ ∀ k, F k → w0.heap.size ≤ k
  hb : w0.heap.size ≤ b
  bel : Below w0.heap.size w0 w
theorem BuL.next {w0 w w' : World} {b : Nat} {X Y : Bs.B} (h : BuL w0 w b X) (q : ∀ F, Bu F w b X → BuQ F w w' b Y) : BuL w0 w' b Y := by
  obtain ⟨F, h1, h2⟩ := h.ex
  have Q := q F h1
  obtain ⟨G, g1, g2⟩ := Q.ex
  exact ⟨⟨G, g1, fun k hk => (g2 k hk).elim (h2 k) (fun hl => Nat.le_trans h.bel.size hl)⟩, h.hb, Q.below h.bel h2 h.hb⟩
theorem lay_l {w0 w : World} {b : Nat} {X : Bs.B} (addr size v : Int) (ha : 0 ≤ addr ∧ addr ≤ 18446744073709551615) (hs : -9223372036854775808 ≤ size ∧ size ≤ 9223372036854775807) (hv : 0 ≤ v ∧ v ≤ 18446744073709551615) (hn : X.u.out.length < 900) (h : BuL w0 w b X) :
    Calls Tryz.prog 17 #[.pointer (some ⟨b, 0, none⟩), .int .u64 addr, .int .i64 size, .int .u64 v] w fun e w' => e = .returned (.bool (Bs.goB X 0 (Bs.layA addr size v))) ∧ BuL w0 w' b (Bs.doX X 0 (Bs.layA addr size v)) := by
  obtain ⟨F, h1, h2⟩ := h.ex
  refine (lay_c F b X addr size v ha hs hv hn w h1).mono ?_
  rintro e w1 ⟨rfl, hq⟩
  obtain ⟨G, g1, g2⟩ := hq.ex
  exact ⟨rfl, ⟨G, g1, fun k hk => (g2 k hk).elim (h2 k) (fun hl => Nat.le_trans h.bel.size hl)⟩, h.hb, hq.below h.bel h2 h.hb⟩
theorem do_l {w0 w : World} {b : Nat} {X : Bs.B} (hart : Int) (a : Ak) (ha : a.In) (hn : X.u.out.length < 900) (h : BuL w0 w b X) :
    Calls Tryz.prog 7 #[.pointer (some ⟨b, 0, none⟩), .int .i64 hart, .agg a.cells] w fun e w' => e = .returned (.tuple #[.agg (anB (Bs.doV X hart a)), .bool (Bs.goB X hart a)]) ∧ BuL w0 w' b (Bs.doX X hart a) := by
  obtain ⟨F, h1, h2⟩ := h.ex
  refine (bdo_c F b X hart a ha hn w h1).mono ?_
  rintro e w1 ⟨rfl, hq⟩
  obtain ⟨G, g1, g2⟩ := hq.ex
  exact ⟨rfl, ⟨G, g1, fun k hk => (g2 k hk).elim (h2 k) (fun hl => Nat.le_trans h.bel.size hl)⟩, h.hb, hq.below h.bel h2 h.hb⟩
theorem lines_l {w0 w : World} {b : Nat} {X : Bs.B} (hart : Int) (h : BuL w0 w b X) :
    Calls Tryz.prog 18 #[.pointer (some ⟨b, 0, none⟩), .int .i64 hart] w fun e w' => e = .returned (.int .u64 (Bs.lineB X hart)) ∧ BuL w0 w' b X := by
  obtain ⟨F, h1, h2⟩ := h.ex
  refine (blines_c F b X hart w h1).mono ?_
  rintro e w1 ⟨rfl, hb⟩
  exact ⟨rfl, ⟨F, h1.low hb, h2⟩, h.hb, h.bel.trans (hb.mono h.bel.size)⟩
set_option maxHeartbeats 8000000 in
theorem live18_c (w : World) : Calls Tryz.prog 5 #[] w fun e w' => e = .returned (.bool true) ∧ Below w.heap.size w w' := by
  go_enter Tryz.func5, Tryz.ntmps5
  go_wp2_with fail
  refine (bnew_c 1 w).mono ?_
  rintro e w1 ⟨hb1, h1⟩
  rcases h1 with ⟨h1, -⟩ | ⟨-, F, b, rfl, hB, hF, hlb⟩
  · exact absurd h1 (by decide)
  have HL := Lib.hid (show BuL w w1 b Bs.lx0 from ⟨⟨F, hB, hF⟩, hlb, hb1⟩)
  have HO := Lib.hid Bs.lx_out
  obtain ⟨e1, e2, e3⟩ := Bs.lx_go
  have HE := Lib.hid Bs.lx_line
  clear hb1 hB hF hlb
  go_wp2_with fail
  refine (lay_l 268435457 1 1 (by decide) (by decide) (by decide) HO.out.1 HL.out).mono ?_
  rintro e w2 ⟨rfl, h2⟩
  rw [e1]
  have HL2 := Lib.hid (show BuL w w2 b Bs.lx1 from h2)
  clear h2 HL
  go_wp2_with fail
  refine (lay_l 201326632 4 1 (by decide) (by decide) (by decide) HO.out.2.1 HL2.out).mono ?_
  rintro e w3 ⟨rfl, h3⟩
  rw [e2]
  have HL3 := Lib.hid (show BuL w w3 b Bs.lx2 from h3)
  clear h3 HL2
  go_wp2_with fail
  refine (lay_l 201334784 4 1024 (by decide) (by decide) (by decide) HO.out.2.2.1 HL3.out).mono ?_
  rintro e w4 ⟨rfl, h4⟩
  rw [e3]
  have HL4 := Lib.hid (show BuL w w4 b Bs.lx3 from h4)
  clear h4 HL3 e1 e2 e3
  go_wp2_with fail
  refine (do_l 0 (Bs.inA 65) (Bs.inA_in (by decide)) HO.out.2.2.2 HL4.out).mono ?_
  rintro e w5 ⟨rfl, h5⟩
  have HL5 := Lib.hid (show BuL w w5 b Bs.lx4 from h5)
  have HN := Lib.hid (lines_l 0 HL5.out)
  rw [HE.out] at HN
  clear h5 HL4
  go_wp2_with fail
  refine HN.out.mono ?_
  rintro e w6 ⟨rfl, h6⟩
  have HF := Lib.hid h6.bel
  clear h6 HN HL5
  go_wp2_with fail
  go_ret
  exact ⟨rfl, HF.out⟩
end Go.Proofs.YtfjdalepaacmgaaGreat
