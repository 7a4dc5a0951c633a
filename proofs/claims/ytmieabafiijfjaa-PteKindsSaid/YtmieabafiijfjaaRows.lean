/-
  No cell of these rows narrows 'for every input' (looked for: loops, veiled, ifaces, maps, wideKeys, modest, calm, conditions, laid).
  DERIVED. THE GIVEN ROWS OF THIS SEAT. 4 by the template 'for every input the law returns true; each argument reads behind the call as it read before'; 0 by the template 'total and deterministic' (their statements: YtmieabafiijfjaaTotals.lean).
  GIVEN WITH THE SEED: the statements are not yours to turn. If you find one false, say at which input.
  Laid BY PROGRAM, IN A SANDBOX (cutbox-rows.mjs): the forced cells as the released guide's own fill.sh prints them over the translation 686611ebf39a72ec… (all of the seat's roots in one cut). By AI agents, Wed Nov 11 2026. No macro, syntax, notation, axiom, sorry.
-/
import Derived.Test.YtmieabafiijfjaaChecked
import GoSem.Claim
import GoSem.ClaimJoined
import GoSem.ClaimMapViews
import Derived.JoinedTies
import Derived.KernelRfl
namespace Go.Proofs.Ytmieabafiijfjaa
/- THE CELL 'sum', in the pinned program and in every row, IS THE sha256 OF THE DUMP (.gsa) THAT YtmieabafiijfjaaProg.lean LOADS. Nothing in Lean hashes anything: it is a label: what it is worth is what the hold of that sum in a sandbox is worth. -/
noncomputable def Try.pinned : Pinned := { name := "ytmieabafiijfjaa", sum := "686611ebf39a72ec2984aac65e60b6b732bbb124815421dac0eca3d171fb9417", checked := Try.checked }
namespace Rows
def none {H : Type} : Left H := { results := [], args := [] }

/-- 'roebucklaw25.PteKinds': WHATEVER THE INPUT: true; the input reads as it did. -/
def pteKindsSpec : ChangeSpec := { name := "pteKinds", fn := fun _ => fun
  | [d1, d2, d3] => { results := [.lit (.bool true)], args := [d1, d2, d3] }
  | _ => none }
def pteKindsRow : OpenClaim := { program := "ytmieabafiijfjaa", sum := "686611ebf39a72ec2984aac65e60b6b732bbb124815421dac0eca3d171fb9417", func := "roebuck/roebucklaw25.PteKinds", spec := "pteKinds", apart := false }
def PteKindsSaid : Prop := pteKindsRow.holds Try.pinned (OpenSpec.ofChange pteKindsSpec)

/-- ITS FALSE NEIGHBOUR: 'it returns false'. Refute it at one input. -/
def pteKindsWrong : ChangeSpec := { name := "pteKinds", fn := fun _ => fun
  | [d1, d2, d3] => { results := [.lit (.bool false)], args := [d1, d2, d3] }
  | _ => none }
def PteKindsWrongFalsely : Prop := pteKindsRow.holds Try.pinned (OpenSpec.ofChange pteKindsWrong)

/-- 'roebucklaw26.VaddrParts': WHATEVER THE INPUT: true; the input reads as it did. -/
def vaddrPartsSpec : ChangeSpec := { name := "vaddrParts", fn := fun _ => fun
  | [d1, d2, d3] => { results := [.lit (.bool true)], args := [d1, d2, d3] }
  | _ => none }
def vaddrPartsRow : OpenClaim := { program := "ytmieabafiijfjaa", sum := "686611ebf39a72ec2984aac65e60b6b732bbb124815421dac0eca3d171fb9417", func := "roebuck/roebucklaw26.VaddrParts", spec := "vaddrParts", apart := false }
def VaddrPartsSaid : Prop := vaddrPartsRow.holds Try.pinned (OpenSpec.ofChange vaddrPartsSpec)

/-- ITS FALSE NEIGHBOUR: 'it returns false'. Refute it at one input. -/
def vaddrPartsWrong : ChangeSpec := { name := "vaddrParts", fn := fun _ => fun
  | [d1, d2, d3] => { results := [.lit (.bool false)], args := [d1, d2, d3] }
  | _ => none }
def VaddrPartsWrongFalsely : Prop := vaddrPartsRow.holds Try.pinned (OpenSpec.ofChange vaddrPartsWrong)

/-- 'roebucklaw26.VaddrSatp': WHATEVER THE INPUT: true; the input reads as it did. -/
def vaddrSatpSpec : ChangeSpec := { name := "vaddrSatp", fn := fun _ => fun
  | [d1, d2, d3] => { results := [.lit (.bool true)], args := [d1, d2, d3] }
  | _ => none }
def vaddrSatpRow : OpenClaim := { program := "ytmieabafiijfjaa", sum := "686611ebf39a72ec2984aac65e60b6b732bbb124815421dac0eca3d171fb9417", func := "roebuck/roebucklaw26.VaddrSatp", spec := "vaddrSatp", apart := false }
def VaddrSatpSaid : Prop := vaddrSatpRow.holds Try.pinned (OpenSpec.ofChange vaddrSatpSpec)

/-- ITS FALSE NEIGHBOUR: 'it returns false'. Refute it at one input. -/
def vaddrSatpWrong : ChangeSpec := { name := "vaddrSatp", fn := fun _ => fun
  | [d1, d2, d3] => { results := [.lit (.bool false)], args := [d1, d2, d3] }
  | _ => none }
def VaddrSatpWrongFalsely : Prop := vaddrSatpRow.holds Try.pinned (OpenSpec.ofChange vaddrSatpWrong)

/-- 'roebucklaw26.VaddrTold': WHATEVER THE INPUT: true; the input reads as it did. -/
def vaddrToldSpec : ChangeSpec := { name := "vaddrTold", fn := fun _ => fun
  | [d1, d2] => { results := [.lit (.bool true)], args := [d1, d2] }
  | _ => none }
def vaddrToldRow : OpenClaim := { program := "ytmieabafiijfjaa", sum := "686611ebf39a72ec2984aac65e60b6b732bbb124815421dac0eca3d171fb9417", func := "roebuck/roebucklaw26.VaddrTold", spec := "vaddrTold", apart := false }
def VaddrToldSaid : Prop := vaddrToldRow.holds Try.pinned (OpenSpec.ofChange vaddrToldSpec)

/-- ITS FALSE NEIGHBOUR: 'it returns false'. Refute it at one input. -/
def vaddrToldWrong : ChangeSpec := { name := "vaddrTold", fn := fun _ => fun
  | [d1, d2] => { results := [.lit (.bool false)], args := [d1, d2] }
  | _ => none }
def VaddrToldWrongFalsely : Prop := vaddrToldRow.holds Try.pinned (OpenSpec.ofChange vaddrToldWrong)

/- THE SECOND FORM. 'bulk': how many values and letters a reading holds, each counted each time it is reached (what is shared counts as often as it is met; a slice's spare places count too). A statement '..UptoSaid' is the law's where the arguments, and the package variables that the reading takes, are together of bulk at most 1048576: NARROWER than '..Said'. Prove '..Said' where nothing that the law and all that it calls make is longer than what came in: it says more and counts as full. Else prove '..UptoSaid'. A law counts once. -/
mutual
def uptoBulk {H : Type} : DataW H → Nat
  | .lit (.string bytes) => bytes.length + 1
  | .lit _ => 1
  | .nil => 1
  | .ptr d => uptoBulk d + 1
  | .slice elems spare => uptoBulkAll elems + uptoBulkAll spare + 1
  | .agg parts => uptoBulkAll parts + 1
  | .iface _ d => uptoBulk d + 1
  | .map entries => uptoBulkEntries entries + 1
  | .held _ => 1
def uptoBulkAll {H : Type} : List (DataW H) → Nat
  | [] => 0
  | d :: r => uptoBulk d + uptoBulkAll r
def uptoBulkEntries {H : Type} : List (Lit × DataW H) → Nat
  | [] => 0
  | x :: r => uptoBulkEntry x + uptoBulkEntries r
def uptoBulkEntry {H : Type} : Lit × DataW H → Nat
  | (.string bytes, d) => bytes.length + uptoBulk d + 1
  | (_, d) => uptoBulk d + 1
 end
def uptoSmall : (H : Type) → List (DataW H) → Bool := fun _ ds => decide (uptoBulkAll ds ≤ 1048576)
def OpenSpec.upto (s : _root_.Go.ChangeSpec) : _root_.Go.OpenSpec := { _root_.Go.OpenSpec.ofChange s with cond := some uptoSmall }

/-- 'roebucklaw25.PteKinds', WHERE WHAT IT READS IS OF BULK AT MOST 1048576: true; the input reads as it did. -/
def pteKindsUptoRow : OpenClaim := { program := "ytmieabafiijfjaa", sum := "686611ebf39a72ec2984aac65e60b6b732bbb124815421dac0eca3d171fb9417", func := "roebuck/roebucklaw25.PteKinds", spec := "pteKinds", apart := false, narrowed := true }
def PteKindsUptoSaid : Prop := pteKindsUptoRow.holds Try.pinned (OpenSpec.upto pteKindsSpec)

/-- 'roebucklaw26.VaddrParts', WHERE WHAT IT READS IS OF BULK AT MOST 1048576: true; the input reads as it did. -/
def vaddrPartsUptoRow : OpenClaim := { program := "ytmieabafiijfjaa", sum := "686611ebf39a72ec2984aac65e60b6b732bbb124815421dac0eca3d171fb9417", func := "roebuck/roebucklaw26.VaddrParts", spec := "vaddrParts", apart := false, narrowed := true }
def VaddrPartsUptoSaid : Prop := vaddrPartsUptoRow.holds Try.pinned (OpenSpec.upto vaddrPartsSpec)

/-- 'roebucklaw26.VaddrSatp', WHERE WHAT IT READS IS OF BULK AT MOST 1048576: true; the input reads as it did. -/
def vaddrSatpUptoRow : OpenClaim := { program := "ytmieabafiijfjaa", sum := "686611ebf39a72ec2984aac65e60b6b732bbb124815421dac0eca3d171fb9417", func := "roebuck/roebucklaw26.VaddrSatp", spec := "vaddrSatp", apart := false, narrowed := true }
def VaddrSatpUptoSaid : Prop := vaddrSatpUptoRow.holds Try.pinned (OpenSpec.upto vaddrSatpSpec)

/-- 'roebucklaw26.VaddrTold', WHERE WHAT IT READS IS OF BULK AT MOST 1048576: true; the input reads as it did. -/
def vaddrToldUptoRow : OpenClaim := { program := "ytmieabafiijfjaa", sum := "686611ebf39a72ec2984aac65e60b6b732bbb124815421dac0eca3d171fb9417", func := "roebuck/roebucklaw26.VaddrTold", spec := "vaddrTold", apart := false, narrowed := true }
def VaddrToldUptoSaid : Prop := vaddrToldUptoRow.holds Try.pinned (OpenSpec.upto vaddrToldSpec)

end Rows
end Go.Proofs.Ytmieabafiijfjaa
