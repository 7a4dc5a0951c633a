/-
  Deeds done to the locks, and to the reference's.
-/
import Derived.Test.YtgegahnjhaldeaaRlE
import Derived.Test.YtgegahnjhaldeaaStC
import Derived.Test.YtgegahnjhaldeaaClA
import Derived.Test.YtgegahnjhaldeaaLive12
import Derived.Test.YtgegahnjhaldeaaOpenLj
import Derived.Test.YtgegahnjhaldeaaPhase
namespace Go.Proofs.Ytgegahnjhaldeaa
open Go.ChangeShapes Go.WideShapes Go.ChangeAt Go.RowKit

/-- Both locks lie beside each other. -/
def Pl2 (base lp mb rb n : Nat) (Rc Rr : Int → List Int) (W : World) : Prop := ∃ Z ZR : Nat → Prop, LkAt Z W base lp mb n Rc ∧ RlAt ZR W rb n Rr ∧ (∀ k, ZR k → Z k)
section
variable {base lp mb rb n : Nat} {Rc Rr : Int → List Int} {W : World}
theorem Pl2.low {W' : World} (h : Pl2 base lp mb rb n Rc Rr W) (hb : Below W.heap.size W W') : Pl2 base lp mb rb n Rc Rr W' := by
  obtain ⟨Z, ZR, h1, h2, h3⟩ := h
  exact ⟨Z, ZR, h1.low hb, h2.low hb, h3⟩
theorem Pl2.ok (h : Pl2 base lp mb rb n Rc Rr W) : Lk.Ok Rc n := by obtain ⟨Z, ZR, h1, -⟩ := h; exact h1.ok
theorem Pl2.code {W' : World} {R' : Int → List Int} {Z ZR : Nat → Prop} (h2 : RlAt ZR W rb n Rr) (h3 : ∀ k, ZR k → Z k) (hl : LkAt Z W' base lp mb n R') (hs : W.heap.size ≤ W'.heap.size) (hk : KeptZ Z W W') : Pl2 base lp mb rb n R' Rr W' :=
  ⟨Z, ZR, hl, h2.keep hs (fun k hz _ => hk k (h3 k hz)) (fun _ h => h), h3⟩
theorem Pl2.ref {W' : World} {R' : Int → List Int} {Z ZR : Nat → Prop} (h1 : LkAt Z W base lp mb n Rc) (h2 : RlAt ZR W rb n Rr) (h3 : ∀ k, ZR k → Z k) (hne : rb ≠ lp) (hr : RlAt (ZN ZR W W') W' rb n R') (ho : OneAt rb W W') : Pl2 base lp mb rb n Rc R' W' :=
  ⟨ZN Z W W', ZN ZR W W', h1.one (h3 rb h2.zb) hne ho, hr, fun k hk => hk.imp (h3 k) id⟩
theorem Pl2.take (h : Pl2 base lp mb rb n Rc Rr W) {w : World} (hw : Below w.heap.size w W) (hb : w.heap.size ≤ base) (who at_ : Int) (ha : InI at_) :
    Calls Try.prog 12 #[.pointer (some ⟨lp, 0, none⟩), .int .i64 who, .int .i64 at_] W fun e w' => e = .returned (.bool (Lk.takeT Rc n who at_)) ∧ Below w.heap.size w w' ∧ Pl2 base lp mb rb n (Lk.take Rc n who at_) Rr w' := by
  obtain ⟨Z, ZR, h1, h2, h3⟩ := h
  exact (take_c who at_ base lp mb n Rc W h1 ha).mono fun e w' ⟨k1, k2, k3, k4⟩ => ⟨k1, hw.trans (k3.mono hb), Pl2.code h2 h3 k2 k3.size k4⟩
theorem Pl2.drop (h : Pl2 base lp mb rb n Rc Rr W) {w : World} (hw : Below w.heap.size w W) (hb : w.heap.size ≤ base) (who at_ : Int) (ha : InI at_) :
    Calls Try.prog 10 #[.pointer (some ⟨lp, 0, none⟩), .int .i64 who, .int .i64 at_] W fun e w' => e = .returned (.bool (Lk.dropT Rc who at_)) ∧ Below w.heap.size w w' ∧ Pl2 base lp mb rb n (Lk.drop Rc who at_) Rr w' := by
  obtain ⟨Z, ZR, h1, h2, h3⟩ := h
  exact (drop_c who at_ base lp mb n Rc W h1 ha).mono fun e w' ⟨k1, k2, k3, k4⟩ => ⟨k1, hw.trans (k3.mono hb), Pl2.code h2 h3 k2 k3.size k4⟩
theorem Pl2.rtake (h : Pl2 base lp mb rb n Rc Rr W) (hok : Lk.Ok Rr n) {w : World} (hw : Below w.heap.size w W) (hb : w.heap.size ≤ rb) (hne : rb ≠ lp) (cap : Nat) (who at_ : Int) :
    Calls Try.prog 13 #[.slice (some ⟨rb, 0, none⟩) n cap, .int .i64 who, .int .i64 at_] W fun e w' => e = .returned (.bool (Lk.takeT Rr n who at_)) ∧ Below w.heap.size w w' ∧ Pl2 base lp mb rb n Rc (Lk.take Rr n who at_) w' := by
  obtain ⟨Z, ZR, h1, h2, h3⟩ := h
  exact (rtake_c rb n cap Rr who at_ W h2 hok).mono fun e w' ⟨k1, k2, k3⟩ => ⟨k1, hw.trans (k3.below hb hw.size), Pl2.ref h1 h2 h3 hne k2 k3⟩
theorem Pl2.rdrop (h : Pl2 base lp mb rb n Rc Rr W) (hok : Lk.Ok Rr n) {w : World} (hw : Below w.heap.size w W) (hb : w.heap.size ≤ rb) (hne : rb ≠ lp) (cap : Nat) (who at_ : Int) :
    Calls Try.prog 11 #[.slice (some ⟨rb, 0, none⟩) n cap, .int .i64 who, .int .i64 at_] W fun e w' => e = .returned (.bool (Lk.dropT Rr who at_)) ∧ Below w.heap.size w w' ∧ Pl2 base lp mb rb n Rc (Lk.drop Rr who at_) w' := by
  obtain ⟨Z, ZR, h1, h2, h3⟩ := h
  exact (rdrop_c rb n cap Rr who at_ W h2 hok).mono fun e w' ⟨k1, k2, k3⟩ => ⟨k1, hw.trans (k3.below hb hw.size), Pl2.ref h1 h2 h3 hne k2 k3⟩
theorem Pl2.same {R : Int → List Int} (h : Pl2 base lp mb rb n R R W) (cap : Nat) :
    Calls Try.prog 14 #[.pointer (some ⟨lp, 0, none⟩), .slice (some ⟨rb, 0, none⟩) n cap] W fun e w' => e = .returned (.bool true) ∧ Below W.heap.size W w' := by
  obtain ⟨Z, ZR, h1, h2, h3⟩ := h
  exact same_c base lp mb rb n cap R W h1 (h2.weak h3)
theorem Pl2.lkv (h : Pl2 base lp mb rb n Rc Rr W) : LkV W (.pointer (some ⟨lp, 0, none⟩)) n Rc := by
  obtain ⟨Z, ZR, h1, h2, h3⟩ := h
  exact .inr ⟨_, _, _, _, rfl, h1⟩
theorem Pl2.rstuck {R : Int → List Int} (h : Pl2 base lp mb rb n R R W) (hn : n ≤ 128) (cap : Nat) :
    Calls Try.prog 17 #[.slice (some ⟨rb, 0, none⟩) n cap] W fun e w' => ∃ v, e = .returned v ∧ w'.ownsRow W.heap.size 3 1 v (Lk.stuck R n).length (iV (Lk.stuck R n)) ∧ Below W.heap.size W w' := by
  obtain ⟨Z, ZR, h1, h2, h3⟩ := h
  exact rstuck_c rb n cap R W h2 h1.ok hn
theorem Pl2.clone (h : Pl2 base lp mb rb n Rc Rr W) :
    Calls Try.prog 18 #[.pointer (some ⟨lp, 0, none⟩)] W fun e w' => e = .returned (.pointer (some ⟨W.heap.size + 1, 0, none⟩)) ∧ LkAt (fun _ => False) w' W.heap.size (W.heap.size + 1) W.heap.size n Rc ∧ Below W.heap.size W w' := by
  obtain ⟨Z, ZR, h1, h2, h3⟩ := h
  exact lclone_c base lp mb n Rc W h1
end
theorem stuckF_le (R : Int → List Int) (n k : Nat) : ∀ ss, (Lk.stuckF R n k ss).length ≤ ss.length := by
  induction k with
  | zero => intro ss; exact Nat.le_refl _
  | succ k ih =>
    intro ss
    unfold Lk.stuckF
    split
    · exact Lk.step_le R n ss
    · exact Nat.le_trans (ih _) (Lk.step_le R n ss)
theorem stuck_small (R : Int → List Int) (n : Nat) : (Lk.stuck R n).length ≤ 1000000 := by
  have h := stuckF_le R n 9 (Lk.iota 8)
  have h8 : (Lk.iota 8).length = 8 := Lk.iota_len 8
  show (Lk.stuckF R n 9 (Lk.iota 8)).length ≤ 1000000
  omega
end Go.Proofs.Ytgegahnjhaldeaa
