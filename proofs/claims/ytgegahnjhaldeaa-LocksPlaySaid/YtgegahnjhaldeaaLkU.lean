/-
  Contract of the law's step (LocksGoOn).
-/
import Derived.Test.YtgegahnjhaldeaaLkT
namespace Go.Proofs.Ytgegahnjhaldeaa
open Go.ChangeShapes Go.WideShapes Go.ChangeAt Go.RowKit
variable {Z : Nat → Prop}

/-- What stands when the law's step has laid its boxes: N is how many blocks there were. -/
structure BxAt (w W : World) (lq : Option Addr) (b off : Nat) (who : Int) (fine : Bool) : Prop where
  bel : Below w.heap.size w W
  cl : CsAt W w.heap.size 25 #[.pointer lq]
  cj : CsAt W (w.heap.size + 1) 41 #[.pointer (some ⟨b, off, none⟩)]
  cw : CsAt W (w.heap.size + 1 + 1) 3 #[.int .i64 who]
  cf : CsAt W (w.heap.size + 1 + 1 + 1) 4 #[.bool fine]
set_option maxHeartbeats 2000000 in
theorem lstep_to (lq : Option Addr) (b off : Nat) (who : Int) (fine : Bool) (Q : World → Prop) (w : World)
    (H : ∀ W, BxAt w W lq b off who true → Calls Try.prog 25 #[.pointer (some ⟨b, off, none⟩), .pointer lq, .int .i64 who, .func (.func 53) #[] #[.pointer (some ⟨w.heap.size, 0, none⟩), .pointer (some ⟨w.heap.size + 1 + 1, 0, none⟩), .pointer (some ⟨w.heap.size + 1, 0, none⟩), .pointer (some ⟨w.heap.size + 1 + 1 + 1, 0, none⟩)]] W
      fun e w' => ∃ r, e = .returned (.int .i64 r) ∧ w'.cell? ⟨w.heap.size + 1 + 1 + 1, 0, none⟩ = some (.bool fine) ∧ Q w') :
    Calls Try.prog 31 #[.pointer lq, .pointer (some ⟨b, off, none⟩), .int .i64 who] w fun e w' => e = .returned (.bool fine) ∧ Q w' := by
  have hs1 : (w.alloc (.cells #[.pointer lq] 25)).heap.size = w.heap.size + 1 := by simp
  have hs2 : ((w.alloc (.cells #[.pointer lq] 25)).alloc (.cells #[.pointer (some ⟨b, off, none⟩)] 41)).heap.size = w.heap.size + 1 + 1 := by simp
  have hs3 : (((w.alloc (.cells #[.pointer lq] 25)).alloc (.cells #[.pointer (some ⟨b, off, none⟩)] 41)).alloc (.cells #[.int .i64 who] 3)).heap.size = w.heap.size + 1 + 1 + 1 := by simp
  have HX := Lib.hid (show BxAt w ((((w.alloc (.cells #[.pointer lq] 25)).alloc (.cells #[.pointer (some ⟨b, off, none⟩)] 41)).alloc (.cells #[.int .i64 who] 3)).alloc (.cells #[.bool true] 4)) lq b off who true from
    ⟨((((Below.refl w.heap.size w).alloc (Nat.le_refl _) _).alloc (by omega) _).alloc (by omega) _).alloc (by omega) _, (((CsAt.new w _ _).alloc _).alloc _).alloc _, ((hs1 ▸ CsAt.new (w.alloc (.cells #[.pointer lq] 25)) _ _).alloc _).alloc _,
      (hs2 ▸ CsAt.new ((w.alloc (.cells #[.pointer lq] 25)).alloc (.cells #[.pointer (some ⟨b, off, none⟩)] 41)) _ _).alloc _, hs3 ▸ CsAt.new _ _ _⟩)
  have HH := Lib.hid (H _ HX.out)
  have c1 := HX.out.cl.cell 0
  have c2 := HX.out.cj.cell 0
  have c3 := HX.out.cw.cell 0
  clear H hs1 hs2 hs3
  go_enter Try.func31, Try.ntmps31
  go_upto_region 2 with fail
  generalize ((((w.alloc (.cells #[.pointer lq] 25)).alloc (.cells #[.pointer (some ⟨b, off, none⟩)] 41)).alloc (.cells #[.int .i64 who] 3)).alloc (.cells #[.bool true] 4)) = w4 at *
  go_wp2_with fail
  refine HH.out.mono ?_
  rintro e w5 ⟨r, rfl, hc, hq⟩
  have HQ := Lib.hid hq
  clear hq c1 c2 c3
  go_wp2_with fail
  go_ret
  exact ⟨rfl, HQ.out⟩
end Go.Proofs.Ytgegahnjhaldeaa
