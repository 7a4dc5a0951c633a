/-
  Contracts of status: field.get, field.put, bit, stackOf, number, privilege.
-/
import Derived.Test.YtfjdalepaacmgaaDoorRow
import Derived.Test.YtfjdalepaacmgaaDoorStaA
import Derived.ProofKit
import Derived.WalkLawsBesides
import Derived.IntWalk
import Derived.Deep.DeepCutAuto
set_option maxRecDepth 20000
namespace Go.Proofs.YtfjdalepaacmgaaDoor
open Go.ChangeShapes Go.WideShapes Go.ChangeAt Go.RowKit Wd Csr Sta

abbrev fV (k s : Nat) : Value := .agg #[.int .u64 k, .int .u64 s]
theorem wrap_ones {s : Nat} (hs : s < 64) : IntKind.u64.wrap (IntKind.u64.wrap (2 ^ s) - 1) = 2 ^ s - 1 := by
  have p := pow_le (k := s) (by omega)
  rw [IntKind.wrap_u64, IntKind.wrap_u64]
  generalize (2 : Int) ^ s = q at *
  omega
set_option maxHeartbeats 1000000 in
theorem fget_c (k s : Nat) (hk : k < 64) (_hs0 : 1 ≤ s) (hs : s ≤ 2) (x : Int) (hx : W64 x) (w : World) :
    Calls Tryd.prog 101 #[fV k s, .int .u64 x] w fun e w' => e = .returned (.int .u64 (cutS x k s)) ∧ Below w.heap.size w w' := by
  have HE := Lib.hid (shr_cut hx hk (s := s) (by omega))
  have HO := Lib.hid (wrap_ones (s := s) (by omega))
  have HB := Lib.hid (show Below w.heap.size w (w.alloc (.cells #[.int .u64 k, .int .u64 s] 138)) from (Below.refl _ _).alloc (Nat.le_refl _) _)
  go_enter Tryd.func101, Tryd.ntmps101
  go_wp2_with fail
  go_ret
  exact ⟨by rw [HO.out, HE.out]; rfl, HB.out⟩
set_option maxHeartbeats 1000000 in
theorem fbit_c (k : Nat) (w : World) : Calls Tryd.prog 100 #[.int .u64 k] w fun e w' => e = .returned (fV k 1) ∧ Below w.heap.size w w' := by
  go_enter Tryd.func100, Tryd.ntmps100
  go_wp2_with fail
  exact bodyPost_ret (v := fV k 1) (by simp [results, Tryd.results100, go_sem]) rfl ⟨rfl, (Below.refl _ _).alloc (Nat.le_refl _) _⟩
abbrev skC : Array Value := #[.int .u64 0, .int .u64 0, .int .u64 0, .int .u64 0, .int .u64 0, .int .u64 0]
abbrev skM : Array Value := #[.int .u64 3, .int .u64 1, .int .u64 7, .int .u64 1, .int .u64 11, .int .u64 2]
abbrev skU : Array Value := #[.int .u64 1, .int .u64 1, .int .u64 5, .int .u64 1, .int .u64 8, .int .u64 1]
/-- What a privilege is held as. -/
def numS (frm dst : Int) : Int := if frm = 3 ∧ dst = 1 then 0 else frm
end Go.Proofs.YtfjdalepaacmgaaDoor
