/-
  What a job does in the law TopWhole: the closure. What TopWhole asks of memory, plainly: a number over a line's end. What stands beside the locks in the law TopWhole.
-/
import Derived.Test.YtjeolfcefeglpabGreatXbo
set_option maxRecDepth 20000
namespace Go.Proofs.YtjeolfcefeglpabGreat
open Go.ChangeShapes Go.WideShapes Go.ChangeAt Go.RowKit Wd

/-- Between two worlds only blocks of S have changed; others may have been made. -/
structure But (S : Nat → Prop) (w w' : World) : Prop where
  os : w'.os = w.os
  tape : w'.tape = w.tape
  output : w'.output = w.output
  size : w.heap.size ≤ w'.heap.size
  block : ∀ k, k < w.heap.size → ¬ S k → w'.heap[k]? = w.heap[k]?
theorem But.refl (S : Nat → Prop) (w : World) : But S w w := ⟨rfl, rfl, rfl, Nat.le_refl _, fun _ _ _ => rfl⟩
theorem But.trans {S : Nat → Prop} {u v w : World} (h : But S u v) (k : But S v w) : But S u w :=
  ⟨k.os.trans h.os, k.tape.trans h.tape, k.output.trans h.output, Nat.le_trans h.size k.size, fun i hi hs => (k.block i (Nat.lt_of_lt_of_le hi h.size) hs).trans (h.block i hi hs)⟩
theorem But.of_below {S : Nat → Prop} {w w' : World} (h : Below w.heap.size w w') : But S w w' := ⟨h.os, h.tape, h.output, h.size, fun k hk _ => h.block k hk⟩
theorem But.of_two {S : Nat → Prop} {b c : Nat} {w w' : World} (h : Two b c w w') (hb : S b) (hc : S c) : But S w w' := ⟨h.os, h.tape, h.output, h.size, fun k hk hs => h.block k hk (fun e => hs (e ▸ hb)) (fun e => hs (e ▸ hc))⟩
theorem But.of_cell {S : Nat → Prop} {w : World} {b : Nat} (hb : S b) (i : Nat) (v : Value) : But S w (w.setCell ⟨b, i, none⟩ v) := ⟨rfl, rfl, rfl, by simp, fun k _ hs => heap_setCell_other w ⟨b, i, none⟩ k v (fun e => hs (e ▸ hb))⟩
theorem But.below {S : Nat → Prop} {w w' : World} (h : But S w w') {N : Nat} (hN : N ≤ w.heap.size) (hS : ∀ k, S k → N ≤ k) : Below N w w' := ⟨h.os, h.tape, h.output, h.size, fun k hk => h.block k (by omega) (fun hs => by have := hS k hs; omega)⟩
theorem enters_whole : Go.Proofs.Enters Tryz.prog 21 := enters_of Tryz.func21 rfl rfl
/-- What the closure leaves. -/
structure WhQ (sb rb mb xb : Nat) (c : Cf) (B : List Int) (T : Rv.Tb) (a : Ak) (h v : Int) (W w' : World) : Prop where
  env : ∃ d g ok B' T', ShAt w' sb rb mb c B' T' ∧ CsAt w' xb 38 #[.int .u64 (if h = 1 then d else v)] ∧ ok = Sh.okD c.lines.toNat c.harts h a ∧
    (ok = true → d = Sh.ansD B c.lines.toNat a ∧ g = Sh.ansG B c.lines.toNat T h a ∧ B' = Sh.doB B c.lines.toNat T h a ∧ T' = Sh.doT B c.lines.toNat T h a) ∧ (ok = false → d = 0 ∧ g = false ∧ B' = B ∧ T' = T)
  but : But (fun k => k = sb ∨ k = mb ∨ k = xb) W w'
theorem setOne {w : World} {b : Nat} {t : TypeId} {u : Value} (h : CsAt w b t #[u]) (v : Value) : CsAt (w.setCell ⟨b, 0, none⟩ v) b t #[v] := by
  unfold CsAt
  rw [heap_setCell_same w b 0 _ t _ h]
  rfl
set_option maxHeartbeats 4000000 in
theorem whole1_c (bs hb ab xb : Nat) {sb rb mb : Nat} {c : Cf} {B : List Int} {T : Rv.Tb} (a : Ak) (ha : a.In) (h v : Int) (W : World) (hs : ShAt W sb rb mb c B T) (h1 : W.cell? ⟨bs, 0, none⟩ = some (.pointer (some ⟨sb, 0, none⟩))) (h2 : W.cell? ⟨hb, 0, none⟩ = some (.int .i64 h)) (h3 : AkAt W ab a)
    (h4 : CsAt W xb 38 #[.int .u64 v]) (n2 : hb ≠ sb ∧ hb ≠ mb) (n4 : xb ≠ sb ∧ xb ≠ rb ∧ xb ≠ mb) :
    Calls Tryz.prog 21 #[.pointer (some ⟨bs, 0, none⟩), .pointer (some ⟨hb, 0, none⟩), .pointer (some ⟨ab, 0, none⟩), .pointer (some ⟨xb, 0, none⟩)] W fun e w' => e = .returned (.tuple #[]) ∧ WhQ sb rb mb xb c B T a h v W w' := by
  have HS := Lib.hid hs
  have HA := Lib.hid h3
  have HX := Lib.hid h4
  have HD := Lib.hid (do_anyT a ha h W hs)
  have H2 := Lib.hid h2
  clear hs h3 h4
  go_enter Tryz.func21, Tryz.ntmps21
  go_wp2_with (refine wpList_load_row rfl AKT _ rfl ab rfl AKT (akC a) (0, 0) _ HA.out.cs Tryz.underlying58 rfl info_ak ?_)
  refine HD.out.mono ?_
  rintro e w1 ⟨d, g, ok, B', T', rfl, hs1, ht1, k1, k2, k3⟩
  have HK := Lib.hid (And.intro k1 (And.intro k2 k3))
  have hbx := box_below w1 (anC d g) ANT
  have HS2 := Lib.hid (hs1.low hbx)
  have hx1 : CsAt w1 xb 38 #[.int .u64 v] := (ht1.block xb HX.out.lt n4.1 n4.2.2).trans HX.out
  have HX2 := Lib.hid (hx1.low hbx)
  have HB2 := Lib.hid (show But (fun k => k = sb ∨ k = mb ∨ k = xb) W (w1.alloc (.cells (anC d g) ANT)) from (But.of_two ht1 (.inl rfl) (.inr (.inl rfl))).trans (But.of_below hbx))
  have h22 : (w1.alloc (.cells (anC d g) ANT)).cell? ⟨hb, 0, none⟩ = some (.int .i64 h) := by
    have q := ht1.cell H2.out n2.1 n2.2
    exact (hbx.cell (p := ⟨hb, 0, none⟩) (World.block_lt_of_cell? _ _ q)).trans q
  have HY := Lib.hid (CsAt.new w1 ANT (anC d g))
  have HNY := Lib.hid (show xb ≠ w1.heap.size by have := hx1.lt; omega)
  clear k1 k2 k3 hs1 ht1 hbx hx1 HD h1 h2
  go_upto_region 1 with (refine wpList_storeNew rfl ANT _ _ rfl (anC 0 false) (anC d g) ANT rfl rfl info_an rfl (anC_one _ _) ?_)
  generalize w1.alloc (.cells (anC d g) ANT) = w2 at *
  generalize w1.heap.size = yb at *
  have y0 : w2.cell? ⟨yb, 0, none⟩ = some (.int .u64 d) := HY.out.cell 0
  have x0 : w2.cell? ⟨xb, 0, none⟩ = some (.int .u64 v) := HX2.out.cell 0
  have f0 := HX2.out.frozen 0
  by_cases hh : h = 1
  · subst hh
    have HE := Lib.hid (show CsAt (w2.setCell ⟨xb, 0, none⟩ (.int .u64 d)) xb 38 #[.int .u64 (if (1 : Int) = 1 then d else v)] from setOne HX2.out _)
    have HS3 := Lib.hid (HS2.out.two (b := xb) (d := xb) (w' := w2.setCell ⟨xb, 0, none⟩ (.int .u64 d)) ⟨rfl, rfl, rfl, by simp, fun k _ hk _ => heap_setCell_other w2 ⟨xb, 0, none⟩ k _ hk⟩ ⟨Ne.symm n4.1, Ne.symm n4.1⟩ ⟨Ne.symm n4.2.1, Ne.symm n4.2.1⟩ ⟨Ne.symm n4.2.2, Ne.symm n4.2.2⟩)
    have HB3 := Lib.hid (HB2.out.trans (But.of_cell (.inr (.inr rfl)) 0 (.int .u64 d)))
    go_wp2_with fail
    go_end0
    exact ⟨rfl, ⟨d, g, ok, B', T', HS3.out, HE.out, HK.out.1, HK.out.2.1, HK.out.2.2⟩, HB3.out⟩
  · have gh : (h == 1) = false := by simpa using hh
    have HE := Lib.hid (show CsAt w2 xb 38 #[.int .u64 (if h = 1 then d else v)] by rw [if_neg hh]; exact HX2.out)
    clear hh
    go_wp2_with fail
    go_end0
    exact ⟨rfl, ⟨d, g, ok, B', T', HS2.out, HE.out, HK.out.1, HK.out.2.1, HK.out.2.2⟩, HB2.out⟩
end Go.Proofs.YtjeolfcefeglpabGreat
set_option maxRecDepth 20000
namespace Go.Proofs.YtjeolfcefeglpabGreat
open Go.RowKit Wd

abbrev ldT (at_ : Int) : Ak := akOf 2 at_ 8 0 0 false
abbrev stT2 (at_ x : Int) : Ak := akOf 3 at_ 8 0 x false
/-- The place. -/
def WhIn (at_ : Int) : Prop := 2147483705 ≤ at_ ∧ at_ ≤ 2147483711
theorem ldT_in {at_ : Int} (h : WhIn at_) : (ldT at_).In := by unfold WhIn at h; exact akOf_in (by omega) (by omega) (by omega) (by omega) (by omega)
theorem stT2_in {at_ x : Int} (h : WhIn at_) (hx : 0 ≤ x ∧ x ≤ 18446744073709551615) : (stT2 at_ x).In := by unfold WhIn at h; exact akOf_in (by omega) (by omega) (by omega) (by omega) hx
theorem wh_inAll {at_ : Int} (h : WhIn at_) : Sh.inAll 2 at_ 0 0 8 := fun i hi => by
  unfold WhIn at h
  unfold Sp.byte
  rw [if_neg (by omega)]
  exact hasB_iff.2 (by omega)
theorem ldT_may {at_ : Int} (h : WhIn at_) : Sh.mayB 2 (ldT at_) = true := by
  refine (Sh.may_iff (ldT_in h)).2 ⟨?_, wh_inAll h⟩
  have : formB (ldT at_) = (powB 8 && Sp.okA 0 8) := formB_ls (.inl rfl)
  rw [this]
  decide
theorem stT2_may {at_ x : Int} (h : WhIn at_) (hx : 0 ≤ x ∧ x ≤ 18446744073709551615) : Sh.mayB 2 (stT2 at_ x) = true := by
  refine (Sh.may_iff (stT2_in h hx)).2 ⟨?_, wh_inAll h⟩
  have : formB (stT2 at_ x) = (powB 8 && Sp.okA 0 8) := formB_ls (.inr rfl)
  rw [this]
  decide
theorem ldT_ok {at_ : Int} (h : WhIn at_) : Sh.okD two14.lines.toNat two14.harts 1 (ldT at_) = true := by
  unfold Sh.okD
  rw [show two14.lines.toNat = 2 from rfl, ldT_may h]
  decide
theorem stT2_ok {at_ x : Int} (h : WhIn at_) (hx : 0 ≤ x ∧ x ≤ 18446744073709551615) : Sh.okD two14.lines.toNat two14.harts 0 (stT2 at_ x) = true := by
  unfold Sh.okD
  rw [show two14.lines.toNat = 2 from rfl, stT2_may h hx]
  decide
/-- The number there. -/
def whN (B : List Int) (at_ : Int) : Int := Sh.num B 2 at_ 0 0 8
theorem ldT_D (B : List Int) (at_ : Int) : Sh.ansD B two14.lines.toNat (ldT at_) = whN B at_ := rfl
theorem ldT_B (B : List Int) (T : Rv.Tb) (at_ : Int) : Sh.doB B two14.lines.toNat T 1 (ldT at_) = B := rfl
theorem stT2_B {B : List Int} (hB : Rm.Ok B 2) (T : Rv.Tb) {at_ x : Int} (h : WhIn at_) (hx : 0 ≤ x ∧ x ≤ 18446744073709551615) : whN (Sh.doB B two14.lines.toNat T 0 (stT2 at_ x)) at_ = x := by
  have hl := Sh.lay_num (B := B) (N := 2) (a := at_) (b := 0) (v := x) (n := 8) hB (by unfold WhIn at h; omega) (by omega) (by omega) (wh_inAll h)
  have e : x % 256 ^ 8 = x := Int.emod_eq_of_lt hx.1 (by show x < 18446744073709551616; omega)
  rw [e] at hl
  exact hl
theorem wh_0 (at_ : Int) : whN (Rm.nought 2) at_ = 0 := by
  have key : ∀ k, Sh.numB (Sh.fB (Rm.nought 2) 2 at_ 0 0) k = 0 := by
    intro k
    induction k with
    | zero => rfl
    | succ k ih =>
      rw [Sh.numB, ih]
      have : Sh.fB (Rm.nought 2) 2 at_ 0 0 k = 0 := by
        unfold Sh.fB ldV
        split
        · rw [show (1 : Int).toNat = 1 from rfl]
          simp only [Ln.num]
          have hz : ∀ j, (Rm.nought 2).getD j 0 = 0 := by
            intro j
            rw [List.getD_eq_getElem?_getD]
            unfold Rm.nought
            rw [List.getElem?_replicate]
            split <;> rfl
          rw [hz]
          rfl
        · rfl
      rw [this]
      omega
  exact key 8
end Go.Proofs.YtjeolfcefeglpabGreat
set_option maxRecDepth 20000
namespace Go.Proofs.YtjeolfcefeglpabGreat
open Go.ChangeShapes Go.WideShapes Go.ChangeAt Go.RowKit Wd

/-- Memory stays where its three blocks do. -/
theorem ShAt.keep {w w' : World} {sb rb mb : Nat} {c : Cf} {B : List Int} {T : Rv.Tb} (h : ShAt w sb rb mb c B T) (h1 : w'.heap[sb]? = w.heap[sb]?) (h2 : w'.heap[rb]? = w.heap[rb]?) (h3 : w'.heap[mb]? = w.heap[mb]?) : ShAt w' sb rb mb c B T :=
  have f : ∀ i v, w.cell? ⟨sb, i, none⟩ = some v → w'.cell? ⟨sb, i, none⟩ = some v := fun i _ hv => (World.cell?_of_block (w := w) (a := ⟨sb, i, none⟩) h1).trans hv
  have g : ∀ i v, w.cell? ⟨rb, i, none⟩ = some v → w'.cell? ⟨rb, i, none⟩ = some v := fun i _ hv => (World.cell?_of_block (w := w) (a := ⟨rb, i, none⟩) h2).trans hv
  ⟨h.right, by
    obtain ⟨D, hD, hF⟩ := h.ram.own
    exact ⟨h.ram.ok, h.ram.n0, h.ram.n1, g _ _ h.ram.c0, g _ _ h.ram.c1, World.block_lt_of_cell? w' _ (g _ _ h.ram.c0), h.ram.ne, D, map_on hD h3, hF⟩,
   f _ _ h.c0, f _ _ h.k0, f _ _ h.k1, f _ _ h.k2, f _ _ h.k3, h.tab.on h1, h.nr, h.nm⟩
/-- The law's blocks. -/
structure WhB (sb rb mb bs jb ub xb : Nat) : Prop where
  x : xb ≠ sb ∧ xb ≠ rb ∧ xb ≠ mb
  s : bs ≠ sb ∧ bs ≠ mb ∧ bs ≠ xb
  u : ub ≠ sb ∧ ub ≠ rb ∧ ub ≠ mb ∧ ub ≠ xb ∧ ub ≠ bs
  j : jb ≠ sb ∧ jb ≠ rb ∧ jb ≠ mb ∧ jb ≠ bs ∧ jb ≠ ub ∧ jb ≠ xb
/-- What stands beside the locks and the jobs. -/
structure WhS (W : World) (sb rb mb bs ub xb : Nat) (B : List Int) (T : Rv.Tb) (v : Int) (u : Nat → Bool) : Prop where
  sh : ShAt W sb rb mb two14 B T
  s0 : W.cell? ⟨bs, 0, none⟩ = some (.pointer (some ⟨sb, 0, none⟩))
  seen : CsAt W xb 38 #[.int .u64 v]
  busy : CsAt W ub 81 #[.bool (u 0), .bool (u 1)]
section
variable {W W' : World} {sb rb mb bs jb ub xb : Nat} {B B' : List Int} {T T' : Rv.Tb} {v v' : Int} {u : Nat → Bool}
theorem WhS.keep (h : WhS W sb rb mb bs ub xb B T v u) (hk : ∀ k, k = sb ∨ k = rb ∨ k = mb ∨ k = bs ∨ k = ub ∨ k = xb → W'.heap[k]? = W.heap[k]?) : WhS W' sb rb mb bs ub xb B T v u :=
  ⟨h.sh.keep (hk _ (.inl rfl)) (hk _ (.inr (.inl rfl))) (hk _ (.inr (.inr (.inl rfl)))), (World.cell?_of_block (w := W) (a := ⟨bs, 0, none⟩) (hk _ (.inr (.inr (.inr (.inl rfl)))))).trans h.s0,
   (hk _ (.inr (.inr (.inr (.inr (.inr rfl)))))).trans h.seen, (hk _ (.inr (.inr (.inr (.inr (.inl rfl)))))).trans h.busy⟩
theorem WhS.low (h : WhS W sb rb mb bs ub xb B T v u) (hb : Below W.heap.size W W') : WhS W' sb rb mb bs ub xb B T v u :=
  ⟨h.sh.low hb, (hb.cell (p := ⟨bs, 0, none⟩) (World.block_lt_of_cell? _ _ h.s0)).trans h.s0, h.seen.low hb, h.busy.low hb⟩
/-- The closure has done its work. -/
theorem WhS.did (h : WhS W sb rb mb bs ub xb B T v u) (hB : WhB sb rb mb bs jb ub xb) (hs : ShAt W' sb rb mb two14 B' T') (hx : CsAt W' xb 38 #[.int .u64 v']) (hb : But (fun k => k = sb ∨ k = mb ∨ k = xb) W W') : WhS W' sb rb mb bs ub xb B' T' v' u := by
  have h1 := hB.s
  have h2 := hB.u
  refine ⟨hs, (World.cell?_of_block (w := W) (a := ⟨bs, 0, none⟩) (hb.block bs (World.block_lt_of_cell? _ _ h.s0) (by omega))).trans h.s0, hx, (hb.block ub h.busy.lt (by omega)).trans h.busy⟩
end
/-- Of the closure's answer: what memory and the box of what was seen hold. -/
theorem whole_kept {B : List Int} {T : Rv.Tb} {at_ x a b v : Int} {h : Int} (hat : WhIn at_) (hB : Rm.Ok B 2) (hn : whN B at_ = 0 ∨ whN B at_ = a ∨ whN B at_ = b) (hv : v = 0 ∨ v = a ∨ v = b) (hx : x = a ∨ x = b) (hxr : 0 ≤ x ∧ x ≤ 18446744073709551615) (hh : h = 0 ∨ h = 1)
    {d : Int} {g ok : Bool} {B' : List Int} {T' : Rv.Tb} (k1 : ok = Sh.okD two14.lines.toNat two14.harts h (if h = 0 then stT2 at_ x else ldT at_))
    (k2 : ok = true → d = Sh.ansD B two14.lines.toNat (if h = 0 then stT2 at_ x else ldT at_) ∧ g = Sh.ansG B two14.lines.toNat T h (if h = 0 then stT2 at_ x else ldT at_) ∧ B' = Sh.doB B two14.lines.toNat T h (if h = 0 then stT2 at_ x else ldT at_) ∧ T' = Sh.doT B two14.lines.toNat T h (if h = 0 then stT2 at_ x else ldT at_)) :
    (whN B' at_ = 0 ∨ whN B' at_ = a ∨ whN B' at_ = b) ∧ ((if h = 1 then d else v) = 0 ∨ (if h = 1 then d else v) = a ∨ (if h = 1 then d else v) = b) := by
  rcases hh with rfl | rfl
  · simp only [if_true] at k1 k2
    rw [stT2_ok hat hxr] at k1
    obtain ⟨-, -, e3, -⟩ := k2 k1
    rw [e3, stT2_B hB T hat hxr]
    exact ⟨.inr hx, by simpa using hv⟩
  · simp only [show ¬ ((1 : Int) = 0) by omega, if_false] at k1 k2
    rw [ldT_ok hat] at k1
    obtain ⟨e1, -, e3, -⟩ := k2 k1
    rw [e3, ldT_B, e1, ldT_D]
    exact ⟨hn, by simpa using hn⟩
end Go.Proofs.YtjeolfcefeglpabGreat
