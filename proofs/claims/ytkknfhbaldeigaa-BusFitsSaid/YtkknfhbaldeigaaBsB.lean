/-
  The reference of layer 18: New.
-/
import Derived.Test.YtkknfhbaldeigaaBsA
set_option maxRecDepth 20000
namespace Go.Proofs.Ytkknfhbaldeigaa
open Go.ChangeShapes Go.WideShapes Go.ChangeAt Go.RowKit

theorem xbV_one (n : Nat) {c p u : Array Value} (h1 : c.all (·.oneCell') = true) (h2 : p.all (·.oneCell') = true) (h3 : u.all (·.oneCell') = true) : (xbV n c p u).all (·.oneCell') = true := by
  rw [Array.all_eq_true_iff_forall_mem] at h1 h2 h3 ⊢
  intro v hv
  simp only [xbV, Array.mem_append] at hv
  rcases hv with ((hv | hv) | hv) | hv
  · simp at hv; subst hv; rfl
  · exact h1 v hv
  · exact h2 v hv
  · exact h3 v hv
theorem iBx (n : Nat) {c p u : Array Value} (h1 : c.size = 18) (h2 : p.size = 657) (h3 : u.size = 11) : (Try.prog.info? BxT).map (·.size) = some (xbV n c p u).size := by
  rw [xbV_size n h1 h2 h3]
  have := info_bx
  cases h : Try.prog.info? BxT with
  | none => rw [h] at this; cases this
  | some i => rw [h] at this; simp only [Option.map_some, Option.some.injEq, Prod.mk.injEq] at this ⊢; exact this.2
set_option maxRecDepth 1000000 in
theorem zero_bx (W : World) : (zeroValue BxT).run Try.prog W = .ok (.agg (xbV 0 (x15V 0 (Ct.newW 0)) (x16V 0 Pc.zeros) uxZ)) W := by kernel_rfl
end Go.Proofs.Ytkknfhbaldeigaa
