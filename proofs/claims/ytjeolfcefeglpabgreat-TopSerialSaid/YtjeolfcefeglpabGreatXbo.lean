/-
  Contract of the law's step (LocksGoOn): a job's state, and what a step makes of it and of the locks. A job's step with any closure. What T1's statements ask of the chapter's example (lone): true. Memory's answer to any ask.
-/
import Derived.Test.YtjeolfcefeglpabGreatXbn
import Derived.Test.YtjeolfcefeglpabGreatXbb
import Derived.Test.YtjeolfcefeglpabGreatXbm
import Derived.Test.YtjeolfcefeglpabGreatXbc
import Derived.Test.YtjeolfcefeglpabGreatXbg
set_option maxRecDepth 20000
namespace Go.Proofs.YtjeolfcefeglpabGreat
open Go.ChangeShapes Go.WideShapes Go.ChangeAt Go.RowKit
variable {Z : Nat → Prop}

namespace Lk
/-- A job: what it needs, how many it took, how many it gave back, whether it is done. -/
structure JS where
  xs : List Int
  t : Nat
  g : Nat
  d : Bool
def JS.over (s : JS) : Bool := s.d && decide (s.g = s.xs.length)
def stR (R : Int → List Int) (n : Nat) (who : Int) (s : JS) : Int → List Int :=
  if s.over then R else if s.t < s.xs.length then take R n who (s.xs.getD s.t 0) else if s.d then drop R who (s.xs.getD (s.xs.length - (s.g + 1)) 0) else R
def stJ (R : Int → List Int) (n : Nat) (who : Int) (s : JS) : JS :=
  if s.over then s else if s.t < s.xs.length then (if takeT R n who (s.xs.getD s.t 0) then ⟨s.xs, s.t + 1, s.g, s.d⟩ else s) else if s.d then ⟨s.xs, s.t, s.g + 1, s.d⟩ else ⟨s.xs, s.t, s.g, true⟩
def stF (R : Int → List Int) (n : Nat) (who : Int) (s : JS) : Bool :=
  if s.over then true else if s.t < s.xs.length then true else if s.d then true else decide (which (holds who) R n = s.xs)
structure JsOk (s : JS) : Prop where
  g : s.g ≤ s.xs.length
  len : s.xs.length ≤ 1000
  rng : ∀ j, j < s.xs.length → InI (s.xs.getD j 0)
end Lk
theorem JobOnly.weak {Y : Nat → Prop} {b off : Nat} {w w' : World} (h : JobOnly Y b off w w') (hy : ∀ k, Z k → Y k) : JobOnly Z b off w w' := ⟨fun k hk hne => h.blk k (hy k hk) hne, h.cell, h.froz⟩
/-- What a step leaves. -/
structure StepQ (Z : Nat → Prop) (b off : Nat) (p : Option Addr) (cap base lp mb n : Nat) (w : World) (R : Int → List Int) (s : Lk.JS) (w' : World) : Prop where
  lk : LkAt Z w' base lp mb n R
  bel : Below base w w'
  only : JobOnly Z b off w w'
  job : JobAt w' b off (.slice p s.xs.length cap) s.t s.g s.d
theorem int_beq (a b : Nat) : (((a : Nat) : Int) == ((b : Nat) : Int)) = decide (a = b) := by
  by_cases h : a = b
  · subst h; simp
  · have : ((a : Nat) : Int) ≠ (b : Int) := by omega
    rw [decide_eq_false h]
    exact beq_eq_false_iff_ne.2 this
theorem Vw.far {w : World} {p : Option Addr} {xs : List Value} (h : Vw w p xs) {b i : Nat} (hp : ∀ pb po, p = some ⟨pb, po, none⟩ → pb ≠ b) (v : Value) : Vw (w.setCell ⟨b, i, none⟩ v) p xs := by
  rcases h with h | ⟨pb, po, rfl, hlt, hc⟩
  · exact .inl h
  · exact .inr ⟨pb, po, rfl, by rw [World.size_setCell]; exact hlt, fun j u hj => (World.cell?_of_block (w := w) (a := ⟨pb, po + j, none⟩) (heap_setCell_other w ⟨b, i, none⟩ pb v (hp pb po rfl))).trans (hc j u hj)⟩
theorem JobOnly.other {b off : Nat} {w : World} (c : Nat) (hc : ¬ Z c) (hb : b ≠ c) (v : Value) : JobOnly Z b off w (w.setCell ⟨c, 0, none⟩ v) :=
  ⟨fun k hk _ => heap_setCell_other w ⟨c, 0, none⟩ k v (show k ≠ c from fun e => hc (e ▸ hk)), fun _ _ _ _ => World.cell?_of_block (w := w) (heap_setCell_other w ⟨c, 0, none⟩ b v hb), fun _ => World.frozen?_setCell _ _ _ _⟩
end Go.Proofs.YtjeolfcefeglpabGreat
set_option maxRecDepth 20000
namespace Go.Proofs.YtjeolfcefeglpabGreat
open Go.ChangeShapes Go.WideShapes Go.ChangeAt Go.RowKit

namespace Lk
/-- Is what the job is for done? -/
def stDT (s : JS) : Bool := !s.over && !decide (s.t < s.xs.length) && !s.d
/-- What holds of a job at all times. -/
structure JvT (s : JS) : Prop where
  t : s.t ≤ s.xs.length
  g : s.g ≤ s.xs.length
  dt : s.d = true → s.t = s.xs.length
  dg : s.d = false → s.g = 0
  len : s.xs.length ≤ 1000
  rng : ∀ x ∈ s.xs, InI x
theorem JvT.ok {s : JS} (h : JvT s) : JsOk s := ⟨h.g, h.len, fun j hj => h.rng _ (by rw [List.getD, List.getElem?_eq_getElem hj]; exact List.getElem_mem hj)⟩
end Lk
section
variable {Z : Nat → Prop}
/-- What a step leaves. -/
structure GsQ (Z : Nat → Prop) (b off : Nat) (p : Option Addr) (cap base lp mb n : Nat) (w : World) (R : Int → List Int) (s : Lk.JS) (E : World → Prop) (w' : World) : Prop where
  lk : LkAt Z w' base lp mb n R
  bel : Below base w w'
  job : JobAt w' b off (.slice p s.xs.length cap) s.t s.g s.d
  env : E w'
theorem gstep_c (b off : Nat) (p : Option Addr) (cap base lp mb n : Nat) (R : Int → List Int) (s : Lk.JS) (who : Int) (w : World) (F : FuncId) (cs : Array Value) (E0 E1 : World → Prop)
    (hL : LkAt Z w base lp mb n R) (hj : JobAt w b off (.slice p s.xs.length cap) s.t s.g s.d) (hs : Lk.JvT s) (hz : Z b) (hbl : b ≠ lp) (hbb : base ≤ b) (hv : Vw w p (iV s.xs)) (hp : p = none ∧ cap = 0 ∨ ∃ b off, p = some ⟨b, off, none⟩) (hpb : ∀ pb po, p = some ⟨pb, po, none⟩ → pb ≠ b)
    (hE : E0 w) (h0 : ∀ u v, E0 u → JobOnly Z b off u v → E0 v) (h1 : ∀ u v, E1 u → Below u.heap.size u v → E1 v) (hEn : Go.Proofs.Enters Tryz.prog F)
    (hA : ∀ W, E0 W → LkAt Z W base lp mb n R → JobAt W b off (.slice p s.xs.length cap) s.t s.g true → Below base w W →
      Calls Tryz.prog F cs W fun e w' => e = .returned (.tuple #[]) ∧ E1 w' ∧ LkAt Z w' base lp mb n R ∧ JobAt w' b off (.slice p s.xs.length cap) s.t s.g true ∧ Below base w w') :
    Calls Tryz.prog 11 #[.pointer (some ⟨b, off, none⟩), .pointer (some ⟨lp, 0, none⟩), .int .i64 who, .func (.func F) #[] cs] w fun e w' =>
      ∃ r, e = .returned (.int .i64 r) ∧ GsQ Z b off p cap base lp mb n w (Lk.stR R n who s) (Lk.stJ R n who s) (if Lk.stDT s then E1 else E0) w' := by
  have hbase : base ≤ w.heap.size := by have := hL.b0; have := hL.lt; omega
  have hjs := hs.ok
  have hd0 : (s.d && ((s.g : Int) == ((s.xs.length : Nat) : Int))) = s.over := by unfold Lk.JS.over; rw [int_beq]
  have kept : ∀ {u v : World}, LkAt Z u base lp mb n R → Below u.heap.size u v → JobOnly Z b off u v := fun h hb => JobOnly.of_kept (fun k hk => hb.block k (h.flt k hk).1) hz
  cases ho : s.over
  · rw [ho] at hd0
    by_cases ht : s.t < s.xs.length
    · have e1 : Lk.stR R n who s = Lk.take R n who (s.xs.getD s.t 0) := by unfold Lk.stR; simp [ho, ht]
      have e4 : Lk.stDT s = false := by unfold Lk.stDT; simp [ht]
      rw [e1, e4]
      refine (step_take b off p _ cap s.t s.g who s.d _ _ (fun r w' => GsQ Z b off p cap base lp mb n w (Lk.take R n who (s.xs.getD s.t 0)) (Lk.stJ R n who s) E0 w') w hj hd0 (by omega) fun W2 hb2 => ?_)
      have hl2 := hL.low hb2
      refine (jtake_c b off p cap s.xs s.t s.g who s.d base lp mb n R W2 (hj.low hb2) hz hbl hbb (hv.low hb2) ht (hjs.rng _ ht) (by have := hjs.len; omega) hl2).mono ?_
      rintro e w3 ⟨rfl, k1, k2, k3, k4⟩
      refine ⟨_, rfl, k1, (hb2.mono hbase).trans k2, ?_, h0 _ _ (h0 _ _ hE (kept hL hb2)) k3⟩
      unfold Lk.stJ
      simp only [ho, ht, if_true, Bool.false_eq_true, if_false]
      cases hq : Lk.takeT R n who (s.xs.getD s.t 0)
      · rw [hq] at k4; simpa using k4
      · rw [hq] at k4; simpa using k4
    · cases hdd : s.d
      · have e1 : Lk.stR R n who s = R := by unfold Lk.stR; simp [ho, ht, hdd]
        have e3 : Lk.stJ R n who s = ⟨s.xs, s.t, s.g, true⟩ := by unfold Lk.stJ; simp [ho, ht, hdd]
        have e4 : Lk.stDT s = true := by unfold Lk.stDT; simp [ho, ht, hdd]
        rw [e1, e3, e4]
        rw [hdd] at hj
        refine (step_act b off p _ cap s.t s.g who _ _ (fun r w' => GsQ Z b off p cap base lp mb n w R ⟨s.xs, s.t, s.g, true⟩ E1 w') w hj (by omega) fun W2 hb2 => ?_)
        have hl2 := hL.low hb2
        have hj2 := hj.low hb2
        have hl3 := hl2.far (b := b) (i := off + 3) hz hbl (.bool true)
        have hj3 := hj2.did true
        have hb3 : Below base w (W2.setCell ⟨b, off + 3, none⟩ (.bool true)) := (hb2.mono hbase).setCell (p := ⟨b, off + 3, none⟩) hbb (.bool true)
        have he3 := h0 _ _ (h0 _ _ hE (kept hL hb2)) (JobOnly.set (w := W2) (Z := Z) (off + 3) (.inr (.inr rfl)) (.bool true))
        refine (jact_c b off p _ cap s.t s.g false F cs (fun w' => E1 w' ∧ LkAt Z w' base lp mb n R ∧ JobAt w' b off (.slice p s.xs.length cap) s.t s.g true ∧ Below base w w') W2 hj2 (hA _ he3 hl3 hj3 hb3) (fun w' h => h.2.2.1) hEn).mono ?_
        rintro e w5 ⟨rfl, w4, ⟨k1, k2, k3, k4⟩, h2⟩
        exact ⟨_, rfl, k2.low h2, k4.trans (h2.mono (by have := k4.size; omega)), k3.low h2, h1 _ _ k1 h2⟩
      · have hg : s.g < s.xs.length := by
          have h1 := hjs.g
          have h2 : s.g ≠ s.xs.length := fun e => by unfold Lk.JS.over at ho; rw [hdd, decide_eq_true e] at ho; cases ho
          omega
        have e1 : Lk.stR R n who s = Lk.drop R who (s.xs.getD (s.xs.length - (s.g + 1)) 0) := by unfold Lk.stR; simp [ho, ht, hdd]
        have e3 : Lk.stJ R n who s = ⟨s.xs, s.t, s.g + 1, s.d⟩ := by unfold Lk.stJ; simp [ho, ht, hdd]
        have e4 : Lk.stDT s = false := by unfold Lk.stDT; simp [hdd]
        rw [e1, e3, e4]
        rw [hdd] at hj hd0
        obtain ⟨pb, po, rfl, hpl, hcell⟩ := hv.cells (by omega)
        refine (step_give b off _ _ cap s.t s.g who _ _ (fun r w' => GsQ Z b off (some ⟨pb, po, none⟩) cap base lp mb n w (Lk.drop R who (s.xs.getD (s.xs.length - (s.g + 1)) 0)) ⟨s.xs, s.t, s.g + 1, s.d⟩ E0 w') w hj hd0 (by omega) fun W2 hb2 => ?_)
        have hl2 := hL.low hb2
        refine (jgive_c b off pb po cap s.xs s.g s.t who base lp mb n R W2 (hj.low hb2) hz hbl hbb (hpb pb po rfl) (Nat.lt_of_lt_of_le hpl hb2.size) (fun j hj => (hb2.cell (p := ⟨pb, po + j, none⟩) hpl).trans (hcell j hj)) hg (hjs.rng _ (by omega)) (by have := hjs.len; omega) hl2).mono ?_
        rintro e w3 ⟨rfl, k1, k2, k3, k4⟩
        refine ⟨_, rfl, k1, (hb2.mono hbase).trans k2, ?_, h0 _ _ (h0 _ _ hE (kept hL hb2)) k3⟩
        rw [hdd]
        simpa using k4
  · rw [ho] at hd0
    have e1 : Lk.stR R n who s = R := by unfold Lk.stR; simp [ho]
    have e3 : Lk.stJ R n who s = s := by unfold Lk.stJ; simp [ho]
    have e4 : Lk.stDT s = false := by unfold Lk.stDT; simp [ho]
    rw [e1, e3, e4]
    refine (step_over b off p _ cap s.t s.g who s.d _ _ w hj hd0).mono ?_
    rintro e w2 ⟨rfl, hb⟩
    exact ⟨_, rfl, hL.low hb, hb.mono hbase, hj.low hb, h0 _ _ hE (kept hL hb)⟩
end
end Go.Proofs.YtjeolfcefeglpabGreat
set_option maxRecDepth 20000
namespace Go.Proofs.YtjeolfcefeglpabGreat
open Go.ChangeShapes Go.WideShapes Go.ChangeAt Go.RowKit Wd

abbrev c1T : Cf := ⟨1, 1, 1, 1⟩
abbrev stOne : Ak := akOf 3 2147483648 8 0 7 false
abbrev ldOne : Ak := akOf 2 2147483648 8 0 0 false
theorem lone_ok1 : Sh.okD c1T.lines.toNat c1T.harts 0 stOne = true := by decide +kernel
theorem lone_ok2 : Sh.okD c1T.lines.toNat c1T.harts 0 ldOne = true := by decide +kernel
theorem in_one : Sh.inAll 1 2147483648 0 0 8 := fun i hi => by
  unfold Sp.byte
  rw [if_neg (by omega)]
  exact hasB_iff.2 (by omega)
theorem lone_num : Sh.ansD (Sh.doB (Rm.nought c1T.lines.toNat) c1T.lines.toNat Rv.none_ 0 stOne) c1T.lines.toNat ldOne = 7 :=
  (Sh.lay_num (B := Rm.nought 1) (N := 1) (a := 2147483648) (b := 0) (v := 7) (n := 8) (Rm.nought_ok 1) (by omega) (by omega) (by omega) in_one).trans (by decide)
theorem stOne_in : stOne.In := akOf_in (by omega) (by omega) (by omega) (by omega) (by omega)
theorem ldOne_in : ldOne.In := akOf_in (by omega) (by omega) (by omega) (by omega) (by omega)
/-- A number stored is loaded. -/
theorem lone_two {sb rb mb : Nat} (w : World) (h : ShAt w sb rb mb c1T (Rm.nought c1T.lines.toNat) Rv.none_) :
    Calls Tryz.prog 14 #[.pointer (some ⟨sb, 0, none⟩), .int .i64 0, .agg (akC stOne)] w fun e w' => (∃ v, e = .returned v) ∧ Two sb mb w w' ∧
      Calls Tryz.prog 14 #[.pointer (some ⟨sb, 0, none⟩), .int .i64 0, .agg (akC ldOne)] w' fun e w'' => ∃ g, e = .returned (.tuple #[.agg (anC 7 g), .bool true]) ∧ Two sb mb w' w'' :=
  (do_yes stOne stOne_in 0 w h lone_ok1).mono fun e w' ⟨h1, h2, h3⟩ => ⟨⟨_, h1⟩, h3, (do_yes ldOne ldOne_in 0 w' h2 lone_ok2).mono fun e w'' ⟨k1, _, k3⟩ => ⟨Sh.ansG (Sh.doB (Rm.nought c1T.lines.toNat) c1T.lines.toNat Rv.none_ 0 stOne) c1T.lines.toNat (Sh.doT (Rm.nought c1T.lines.toNat) c1T.lines.toNat Rv.none_ 0 stOne) 0 ldOne, by rw [k1]; exact congrArg (fun x => Ending.returned (.tuple #[.agg (anC x _), .bool true])) lone_num, k3⟩⟩
set_option maxHeartbeats 4000000 in
theorem lone_c (w : World) : Calls Tryz.prog 7 #[] w fun e w' => e = .returned (.bool true) ∧ Below w.heap.size w w' := by
  go_enter Tryz.func7, Tryz.ntmps7
  go_wp2_with fail
  refine (snew_c c1T (by decide) w).mono ?_
  rintro e w1 ⟨sb, rb, mb, rfl, hs, hb, h1, h2, h3⟩
  have HB := Lib.hid hb
  have HL := Lib.hid (And.intro h1 h3)
  have HT := Lib.hid (lone_two w1 hs)
  clear hs hb h1 h2 h3
  go_wp2_with fail
  refine HT.out.mono ?_
  rintro e w2 ⟨⟨v, rfl⟩, ht, hc⟩
  have HB2 := Lib.hid (HB.out.trans (ht.below HL.out.1 HL.out.2 HB.out.size))
  have HC := Lib.hid hc
  clear ht hc HT HB
  go_wp2_with fail
  refine HC.out.mono ?_
  rintro e w3 ⟨g, rfl, ht⟩
  have HB3 := Lib.hid (HB2.out.trans (ht.below HL.out.1 HL.out.2 HB2.out.size))
  have hbx := box_below w3 (anC 7 g) ANT
  have HB4 := Lib.hid (HB3.out.trans (hbx.mono HB3.out.size))
  have HX := Lib.hid (CsAt.new w3 ANT (anC 7 g))
  clear ht HC HB2 hbx
  go_upto_region 6 with (refine wpList_storeNew rfl ANT _ _ rfl (anC 0 false) (anC 7 g) ANT rfl rfl info_an rfl (anC_one _ _) ?_)
  generalize w3.alloc (.cells (anC 7 g) ANT) = w4 at *
  generalize w3.heap.size = xb at *
  have x0 : w4.cell? ⟨xb, 0, none⟩ = some (.int .u64 7) := HX.out.cell 0
  go_wp2_with fail
  go_ret
  exact ⟨rfl, HB4.out⟩
/-- Memory's answer to any ask. -/
theorem do_anyT (a : Ak) (ha : a.In) {sb rb mb : Nat} {c : Cf} {B : List Int} {T : Rv.Tb} (hart : Int) (w : World) (h : ShAt w sb rb mb c B T) :
    Calls Tryz.prog 14 #[.pointer (some ⟨sb, 0, none⟩), .int .i64 hart, .agg (akC a)] w fun e w' => ∃ d g ok B' T', e = .returned (.tuple #[.agg (anC d g), .bool ok]) ∧ ShAt w' sb rb mb c B' T' ∧ Two sb mb w w' ∧
      ok = Sh.okD c.lines.toNat c.harts hart a ∧ (ok = true → d = Sh.ansD B c.lines.toNat a ∧ g = Sh.ansG B c.lines.toNat T hart a ∧ B' = Sh.doB B c.lines.toNat T hart a ∧ T' = Sh.doT B c.lines.toNat T hart a) ∧ (ok = false → d = 0 ∧ g = false ∧ B' = B ∧ T' = T) := by
  cases hok : Sh.okD c.lines.toNat c.harts hart a
  · exact (do_no a ha hart w h hok).mono fun e w' ⟨h1, h2, h3⟩ => ⟨0, false, false, B, T, h1, h3, h2, rfl, (fun h => by cases h), fun _ => ⟨rfl, rfl, rfl, rfl⟩⟩
  · exact (do_yes a ha hart w h hok).mono fun e w' ⟨h1, h2, h3⟩ => ⟨_, _, true, _, _, h1, h2, h3, rfl, fun _ => ⟨rfl, rfl, rfl, rfl⟩, (fun h => by cases h)⟩
end Go.Proofs.YtjeolfcefeglpabGreat
