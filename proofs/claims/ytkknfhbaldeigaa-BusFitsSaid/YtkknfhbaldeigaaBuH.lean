/-
  The law of layer 18: lay, live.
-/
import Derived.Test.YtkknfhbaldeigaaBuG
set_option maxRecDepth 20000
namespace Go.Proofs.Ytkknfhbaldeigaa
open Go.ChangeShapes Go.WideShapes Go.ChangeAt Go.RowKit
namespace Bs
/-- The ask that writes a register; the one of a byte that comes in. -/
abbrev layA (addr size v : Int) : Ak := ⟨10, addr, 0, 0, size, 0, v, 0, false, 0, ⟨false, false, false, 0, 0⟩, ⟨0, 0, 0, 0⟩⟩
abbrev inA (v : Int) : Ak := ⟨19, 0, 0, 0, 0, 0, v, 0, false, 0, ⟨false, false, false, 0, 0⟩, ⟨0, 0, 0, 0⟩⟩
theorem layA_in {addr size v : Int} (ha : 0 ≤ addr ∧ addr ≤ 18446744073709551615) (hs : -9223372036854775808 ≤ size ∧ size ≤ 9223372036854775807) (hv : 0 ≤ v ∧ v ≤ 18446744073709551615) : (layA addr size v).In :=
  ⟨⟨by simp, by simp⟩, ha, ⟨by simp, by simp⟩, ⟨by simp, by simp⟩, hs, ⟨by simp, by simp⟩, hv, ⟨by simp, by simp⟩, ⟨by simp, by simp⟩, by constructor <;> simp, by constructor <;> simp⟩
theorem inA_in {v : Int} (hv : 0 ≤ v ∧ v ≤ 18446744073709551615) : (inA v).In :=
  ⟨⟨by simp, by simp⟩, ⟨by simp, by simp⟩, ⟨by simp, by simp⟩, ⟨by simp, by simp⟩, ⟨by simp, by simp⟩, ⟨by simp, by simp⟩, hv, ⟨by simp, by simp⟩, ⟨by simp, by simp⟩, by constructor <;> simp, by constructor <;> simp⟩
end Bs
set_option maxHeartbeats 8000000 in
theorem lay_c (F : Nat → Prop) (b : Nat) (X : Bs.B) (addr size v : Int) (ha : 0 ≤ addr ∧ addr ≤ 18446744073709551615) (hs : -9223372036854775808 ≤ size ∧ size ≤ 9223372036854775807) (hv : 0 ≤ v ∧ v ≤ 18446744073709551615) (hn : X.u.out.length < 900) (w : World) (hb : Bu F w b X) :
    Calls Try.prog 45 #[.pointer (some ⟨b, 0, none⟩), .int .u64 addr, .int .i64 size, .int .u64 v] w fun e w' => e = .returned (.bool (Bs.goB X 0 (Bs.layA addr size v))) ∧ BuQ F w w' b (Bs.doX X 0 (Bs.layA addr size v)) := by
  have HD := Lib.hid (bdo_c F b X 0 (Bs.layA addr size v) (Bs.layA_in ha hs hv) hn w hb)
  have hz := zero_an
  generalize Bs.doX X 0 (Bs.layA addr size v) = Y at *
  generalize Bs.doV X 0 (Bs.layA addr size v) = r at *
  generalize Bs.goB X 0 (Bs.layA addr size v) = g at *
  go_enter Try.func45, Try.ntmps45
  go_wp2_with fail
  refine HD.out.mono ?_
  rintro e w1 ⟨rfl, hq1⟩
  have HQ := Lib.hid (hq1.low ((Below.refl w1.heap.size w1).alloc (Nat.le_refl _) (Obj.cells (anB r) ANT)))
  clear hq1 HD
  go_upto_region 2 with (refine wpList_storeNew (w0 := w1) rfl ANT _ _ rfl (anB 0) (anB r) ANT (by kernel_rfl) (by kernel_rfl) (iAN _) rfl (anB_one _) ?_)
  clear hz
  go_wp2_with fail
  go_ret
  exact ⟨rfl, HQ.out⟩
namespace Bs
/-- The chapter's example. -/
def lx0 : B := new 1
def lx1 : B := doX lx0 0 (layA 268435457 1 1)
def lx2 : B := doX lx1 0 (layA 201326632 4 1)
def lx3 : B := doX lx2 0 (layA 201334784 4 1024)
def lx4 : B := doX lx3 0 (inA 65)
theorem lx_go : goB lx0 0 (layA 268435457 1 1) = true ∧ goB lx1 0 (layA 201326632 4 1) = true ∧ goB lx2 0 (layA 201334784 4 1024) = true := ⟨by kernel_rfl, by kernel_rfl, by kernel_rfl⟩
theorem lx_out : lx0.u.out.length < 900 ∧ lx1.u.out.length < 900 ∧ lx2.u.out.length < 900 ∧ lx3.u.out.length < 900 := ⟨of_decide_eq_true (by kernel_rfl), of_decide_eq_true (by kernel_rfl), of_decide_eq_true (by kernel_rfl), of_decide_eq_true (by kernel_rfl)⟩
theorem lx_line : lineB lx4 0 = 2048 := by kernel_rfl
end Bs
theorem BuQ.size {F : Nat → Prop} {w w' : World} {b : Nat} {X : Bs.B} (h : BuQ F w w' b X) : w.heap.size ≤ w'.heap.size := h.chg.size
/-- What is done to a bus that lies beyond a world leaves that world as it was. -/
theorem BuQ.below {F : Nat → Prop} {w0 w w' : World} {b : Nat} {X : Bs.B} (h : BuQ F w w' b X) (hb : Below w0.heap.size w0 w) (hF : ∀ k, F k → w0.heap.size ≤ k) (hB : w0.heap.size ≤ b) : Below w0.heap.size w0 w' :=
  hb.trans (h.chg.below hb.size (fun k hk => hk.elim (hF k) (fun e => e ▸ hB)))
/-- A bus that is made and used by a law. -/
structure BuL (w0 w : World) (b : Nat) (X : Bs.B) : Prop where
  ex : ∃ F, Bu F w b X ∧ ∀ k, F k → w0.heap.size ≤ k
  hb : w0.heap.size ≤ b
  bel : Below w0.heap.size w0 w
theorem BuL.next {w0 w w' : World} {b : Nat} {X Y : Bs.B} (h : BuL w0 w b X) (q : ∀ F, Bu F w b X → BuQ F w w' b Y) : BuL w0 w' b Y := by
  obtain ⟨F, h1, h2⟩ := h.ex
  have Q := q F h1
  obtain ⟨G, g1, g2⟩ := Q.ex
  exact ⟨⟨G, g1, fun k hk => (g2 k hk).elim (h2 k) (fun hl => Nat.le_trans h.bel.size hl)⟩, h.hb, Q.below h.bel h2 h.hb⟩
theorem lay_l {w0 w : World} {b : Nat} {X : Bs.B} (addr size v : Int) (ha : 0 ≤ addr ∧ addr ≤ 18446744073709551615) (hs : -9223372036854775808 ≤ size ∧ size ≤ 9223372036854775807) (hv : 0 ≤ v ∧ v ≤ 18446744073709551615) (hn : X.u.out.length < 900) (h : BuL w0 w b X) :
    Calls Try.prog 45 #[.pointer (some ⟨b, 0, none⟩), .int .u64 addr, .int .i64 size, .int .u64 v] w fun e w' => e = .returned (.bool (Bs.goB X 0 (Bs.layA addr size v))) ∧ BuL w0 w' b (Bs.doX X 0 (Bs.layA addr size v)) := by
  obtain ⟨F, h1, h2⟩ := h.ex
  refine (lay_c F b X addr size v ha hs hv hn w h1).mono ?_
  rintro e w1 ⟨rfl, hq⟩
  obtain ⟨G, g1, g2⟩ := hq.ex
  exact ⟨rfl, ⟨G, g1, fun k hk => (g2 k hk).elim (h2 k) (fun hl => Nat.le_trans h.bel.size hl)⟩, h.hb, hq.below h.bel h2 h.hb⟩
theorem do_l {w0 w : World} {b : Nat} {X : Bs.B} (hart : Int) (a : Ak) (ha : a.In) (hn : X.u.out.length < 900) (h : BuL w0 w b X) :
    Calls Try.prog 5 #[.pointer (some ⟨b, 0, none⟩), .int .i64 hart, .agg a.cells] w fun e w' => e = .returned (.tuple #[.agg (anB (Bs.doV X hart a)), .bool (Bs.goB X hart a)]) ∧ BuL w0 w' b (Bs.doX X hart a) := by
  obtain ⟨F, h1, h2⟩ := h.ex
  refine (bdo_c F b X hart a ha hn w h1).mono ?_
  rintro e w1 ⟨rfl, hq⟩
  obtain ⟨G, g1, g2⟩ := hq.ex
  exact ⟨rfl, ⟨G, g1, fun k hk => (g2 k hk).elim (h2 k) (fun hl => Nat.le_trans h.bel.size hl)⟩, h.hb, hq.below h.bel h2 h.hb⟩
theorem lines_l {w0 w : World} {b : Nat} {X : Bs.B} (hart : Int) (h : BuL w0 w b X) :
    Calls Try.prog 7 #[.pointer (some ⟨b, 0, none⟩), .int .i64 hart] w fun e w' => e = .returned (.int .u64 (Bs.lineB X hart)) ∧ BuL w0 w' b X := by
  obtain ⟨F, h1, h2⟩ := h.ex
  refine (blines_c F b X hart w h1).mono ?_
  rintro e w1 ⟨rfl, hb⟩
  exact ⟨rfl, ⟨F, h1.low hb, h2⟩, h.hb, h.bel.trans (hb.mono h.bel.size)⟩
set_option maxHeartbeats 8000000 in
theorem live18_c (w : World) : Calls Try.prog 16 #[] w fun e w' => e = .returned (.bool true) ∧ Below w.heap.size w w' := by
  go_enter Try.func16, Try.ntmps16
  go_wp2_with fail
  refine (bnew_c 1 w).mono ?_
  rintro e w1 ⟨hb1, h1⟩
  rcases h1 with ⟨h1, -⟩ | ⟨-, F, b, rfl, hB, hF, hlb⟩
  · exact absurd h1 (by decide)
  have HL := Lib.hid (show BuL w w1 b Bs.lx0 from ⟨⟨F, hB, hF⟩, hlb, hb1⟩)
  have HO := Lib.hid Bs.lx_out
  obtain ⟨e1, e2, e3⟩ := Bs.lx_go
  have HE := Lib.hid Bs.lx_line
  clear hb1 hB hF hlb
  go_wp2_with fail
  refine (lay_l 268435457 1 1 (by decide) (by decide) (by decide) HO.out.1 HL.out).mono ?_
  rintro e w2 ⟨rfl, h2⟩
  rw [e1]
  have HL2 := Lib.hid (show BuL w w2 b Bs.lx1 from h2)
  clear h2 HL
  go_wp2_with fail
  refine (lay_l 201326632 4 1 (by decide) (by decide) (by decide) HO.out.2.1 HL2.out).mono ?_
  rintro e w3 ⟨rfl, h3⟩
  rw [e2]
  have HL3 := Lib.hid (show BuL w w3 b Bs.lx2 from h3)
  clear h3 HL2
  go_wp2_with fail
  refine (lay_l 201334784 4 1024 (by decide) (by decide) (by decide) HO.out.2.2.1 HL3.out).mono ?_
  rintro e w4 ⟨rfl, h4⟩
  rw [e3]
  have HL4 := Lib.hid (show BuL w w4 b Bs.lx3 from h4)
  clear h4 HL3 e1 e2 e3
  go_wp2_with fail
  refine (do_l 0 (Bs.inA 65) (Bs.inA_in (by decide)) HO.out.2.2.2 HL4.out).mono ?_
  rintro e w5 ⟨rfl, h5⟩
  have HL5 := Lib.hid (show BuL w w5 b Bs.lx4 from h5)
  have HN := Lib.hid (lines_l 0 HL5.out)
  rw [HE.out] at HN
  clear h5 HL4
  go_wp2_with fail
  refine HN.out.mono ?_
  rintro e w6 ⟨rfl, h6⟩
  have HF := Lib.hid h6.bel
  clear h6 HN HL5
  go_wp2_with fail
  go_ret
  exact ⟨rfl, HF.out⟩
end Go.Proofs.Ytkknfhbaldeigaa
