/-
  No cell of these rows narrows 'for every input' (looked for: loops, veiled, ifaces, maps, wideKeys, modest, calm, conditions, laid).
  DERIVED. THE GIVEN ROWS OF THIS SEAT. 6 by the template 'for every input the law returns true; each argument reads behind the call as it read before'; 0 by the template 'total and deterministic' (their statements: YtjeolfcefeglpaaTotals.lean).
  GIVEN WITH THE SEED: the statements are not yours to turn. If you find one false, say at which input.
  Laid BY PROGRAM, IN A SANDBOX (cutbox-rows.mjs): the forced cells as the released guide's own fill.sh prints them over the translation f995dab64ca48206… (all of the seat's roots in one cut). By AI agents, Wed Nov 11 2026. No macro, syntax, notation, axiom, sorry.
-/
import Derived.Test.YtjeolfcefeglpaaChecked
import GoSem.Claim
import GoSem.ClaimJoined
import GoSem.ClaimMapViews
import Derived.JoinedTies
import Derived.KernelRfl
namespace Go.Proofs.Ytjeolfcefeglpaa
/- THE CELL 'sum', in the pinned program and in every row, IS THE sha256 OF THE DUMP (.gsa) THAT YtjeolfcefeglpaaProg.lean LOADS. Nothing in Lean hashes anything: it is a label: what it is worth is what the hold of that sum in a sandbox is worth. -/
noncomputable def Try.pinned : Pinned := { name := "ytjeolfcefeglpaa", sum := "f995dab64ca4820604700f0fa6a0d5024f3870762719eea6dc849660db712b0a", checked := Try.checked }
namespace Rows
def none {H : Type} : Left H := { results := [], args := [] }

/-- 'roebucklaw15.ClintPlays': WHATEVER THE INPUT: true; the input reads as it did. -/
def clintPlaysSpec : ChangeSpec := { name := "clintPlays", fn := fun _ => fun
  | [d1, d2, d3] => { results := [.lit (.bool true)], args := [d1, d2, d3] }
  | _ => none }
def clintPlaysRow : OpenClaim := { program := "ytjeolfcefeglpaa", sum := "f995dab64ca4820604700f0fa6a0d5024f3870762719eea6dc849660db712b0a", func := "roebuck/roebucklaw15.ClintPlays", spec := "clintPlays", apart := false }
def ClintPlaysSaid : Prop := clintPlaysRow.holds Try.pinned (OpenSpec.ofChange clintPlaysSpec)

/-- ITS FALSE NEIGHBOUR: 'it returns false'. Refute it at one input. -/
def clintPlaysWrong : ChangeSpec := { name := "clintPlays", fn := fun _ => fun
  | [d1, d2, d3] => { results := [.lit (.bool false)], args := [d1, d2, d3] }
  | _ => none }
def ClintPlaysWrongFalsely : Prop := clintPlaysRow.holds Try.pinned (OpenSpec.ofChange clintPlaysWrong)

/-- 'roebucklaw15.ClintNone': WHATEVER THE INPUT: true; the input reads as it did. -/
def clintNoneSpec : ChangeSpec := { name := "clintNone", fn := fun _ => fun
  | [d1, d2, d3] => { results := [.lit (.bool true)], args := [d1, d2, d3] }
  | _ => none }
def clintNoneRow : OpenClaim := { program := "ytjeolfcefeglpaa", sum := "f995dab64ca4820604700f0fa6a0d5024f3870762719eea6dc849660db712b0a", func := "roebuck/roebucklaw15.ClintNone", spec := "clintNone", apart := false }
def ClintNoneSaid : Prop := clintNoneRow.holds Try.pinned (OpenSpec.ofChange clintNoneSpec)

/-- ITS FALSE NEIGHBOUR: 'it returns false'. Refute it at one input. -/
def clintNoneWrong : ChangeSpec := { name := "clintNone", fn := fun _ => fun
  | [d1, d2, d3] => { results := [.lit (.bool false)], args := [d1, d2, d3] }
  | _ => none }
def ClintNoneWrongFalsely : Prop := clintNoneRow.holds Try.pinned (OpenSpec.ofChange clintNoneWrong)

/-- 'roebucklaw15.ClintTells': WHATEVER THE INPUT: true; the input reads as it did. -/
def clintTellsSpec : ChangeSpec := { name := "clintTells", fn := fun _ => fun
  | [d1, d2, d3, d4] => { results := [.lit (.bool true)], args := [d1, d2, d3, d4] }
  | _ => none }
def clintTellsRow : OpenClaim := { program := "ytjeolfcefeglpaa", sum := "f995dab64ca4820604700f0fa6a0d5024f3870762719eea6dc849660db712b0a", func := "roebuck/roebucklaw15.ClintTells", spec := "clintTells", apart := false }
def ClintTellsSaid : Prop := clintTellsRow.holds Try.pinned (OpenSpec.ofChange clintTellsSpec)

/-- ITS FALSE NEIGHBOUR: 'it returns false'. Refute it at one input. -/
def clintTellsWrong : ChangeSpec := { name := "clintTells", fn := fun _ => fun
  | [d1, d2, d3, d4] => { results := [.lit (.bool false)], args := [d1, d2, d3, d4] }
  | _ => none }
def ClintTellsWrongFalsely : Prop := clintTellsRow.holds Try.pinned (OpenSpec.ofChange clintTellsWrong)

/-- 'roebucklaw16.PlicPlays': WHATEVER THE INPUT: true; the input reads as it did. -/
def plicPlaysSpec : ChangeSpec := { name := "plicPlays", fn := fun _ => fun
  | [d1, d2] => { results := [.lit (.bool true)], args := [d1, d2] }
  | _ => none }
def plicPlaysRow : OpenClaim := { program := "ytjeolfcefeglpaa", sum := "f995dab64ca4820604700f0fa6a0d5024f3870762719eea6dc849660db712b0a", func := "roebuck/roebucklaw16.PlicPlays", spec := "plicPlays", apart := false }
def PlicPlaysSaid : Prop := plicPlaysRow.holds Try.pinned (OpenSpec.ofChange plicPlaysSpec)

/-- ITS FALSE NEIGHBOUR: 'it returns false'. Refute it at one input. -/
def plicPlaysWrong : ChangeSpec := { name := "plicPlays", fn := fun _ => fun
  | [d1, d2] => { results := [.lit (.bool false)], args := [d1, d2] }
  | _ => none }
def PlicPlaysWrongFalsely : Prop := plicPlaysRow.holds Try.pinned (OpenSpec.ofChange plicPlaysWrong)

/-- 'roebucklaw16.PlicNone': WHATEVER THE INPUT: true; the input reads as it did. -/
def plicNoneSpec : ChangeSpec := { name := "plicNone", fn := fun _ => fun
  | [d1, d2] => { results := [.lit (.bool true)], args := [d1, d2] }
  | _ => none }
def plicNoneRow : OpenClaim := { program := "ytjeolfcefeglpaa", sum := "f995dab64ca4820604700f0fa6a0d5024f3870762719eea6dc849660db712b0a", func := "roebuck/roebucklaw16.PlicNone", spec := "plicNone", apart := false }
def PlicNoneSaid : Prop := plicNoneRow.holds Try.pinned (OpenSpec.ofChange plicNoneSpec)

/-- ITS FALSE NEIGHBOUR: 'it returns false'. Refute it at one input. -/
def plicNoneWrong : ChangeSpec := { name := "plicNone", fn := fun _ => fun
  | [d1, d2] => { results := [.lit (.bool false)], args := [d1, d2] }
  | _ => none }
def PlicNoneWrongFalsely : Prop := plicNoneRow.holds Try.pinned (OpenSpec.ofChange plicNoneWrong)

/-- 'roebucklaw16.PlicServes': WHATEVER THE INPUT: true; the input reads as it did. -/
def plicServesSpec : ChangeSpec := { name := "plicServes", fn := fun _ => fun
  | [d] => { results := [.lit (.bool true)], args := [d] }
  | _ => none }
def plicServesRow : OpenClaim := { program := "ytjeolfcefeglpaa", sum := "f995dab64ca4820604700f0fa6a0d5024f3870762719eea6dc849660db712b0a", func := "roebuck/roebucklaw16.PlicServes", spec := "plicServes", apart := false }
def PlicServesSaid : Prop := plicServesRow.holds Try.pinned (OpenSpec.ofChange plicServesSpec)

/-- ITS FALSE NEIGHBOUR: 'it returns false'. Refute it at one input. -/
def plicServesWrong : ChangeSpec := { name := "plicServes", fn := fun _ => fun
  | [d] => { results := [.lit (.bool false)], args := [d] }
  | _ => none }
def PlicServesWrongFalsely : Prop := plicServesRow.holds Try.pinned (OpenSpec.ofChange plicServesWrong)

/- THE SECOND FORM. 'bulk': how many values and letters a reading holds, each counted each time it is reached (what is shared counts as often as it is met; a slice's spare places count too). A statement '..UptoSaid' is the law's where the arguments, and the package variables that the reading takes, are together of bulk at most 1048576: NARROWER than '..Said'. Prove '..Said' where nothing that the law and all that it calls make is longer than what came in: it says more and counts as full. Else prove '..UptoSaid'. A law counts once. -/
mutual
def uptoBulk {H : Type} : DataW H → Nat
  | .lit (.string bytes) => bytes.length + 1
  | .lit _ => 1
  | .nil => 1
  | .ptr d => uptoBulk d + 1
  | .slice elems spare => uptoBulkAll elems + uptoBulkAll spare + 1
  | .agg parts => uptoBulkAll parts + 1
  | .iface _ d => uptoBulk d + 1
  | .map entries => uptoBulkEntries entries + 1
  | .held _ => 1
def uptoBulkAll {H : Type} : List (DataW H) → Nat
  | [] => 0
  | d :: r => uptoBulk d + uptoBulkAll r
def uptoBulkEntries {H : Type} : List (Lit × DataW H) → Nat
  | [] => 0
  | x :: r => uptoBulkEntry x + uptoBulkEntries r
def uptoBulkEntry {H : Type} : Lit × DataW H → Nat
  | (.string bytes, d) => bytes.length + uptoBulk d + 1
  | (_, d) => uptoBulk d + 1
 end
def uptoSmall : (H : Type) → List (DataW H) → Bool := fun _ ds => decide (uptoBulkAll ds ≤ 1048576)
def OpenSpec.upto (s : _root_.Go.ChangeSpec) : _root_.Go.OpenSpec := { _root_.Go.OpenSpec.ofChange s with cond := some uptoSmall }

/-- 'roebucklaw15.ClintPlays', WHERE WHAT IT READS IS OF BULK AT MOST 1048576: true; the input reads as it did. -/
def clintPlaysUptoRow : OpenClaim := { program := "ytjeolfcefeglpaa", sum := "f995dab64ca4820604700f0fa6a0d5024f3870762719eea6dc849660db712b0a", func := "roebuck/roebucklaw15.ClintPlays", spec := "clintPlays", apart := false, narrowed := true }
def ClintPlaysUptoSaid : Prop := clintPlaysUptoRow.holds Try.pinned (OpenSpec.upto clintPlaysSpec)

/-- 'roebucklaw15.ClintNone', WHERE WHAT IT READS IS OF BULK AT MOST 1048576: true; the input reads as it did. -/
def clintNoneUptoRow : OpenClaim := { program := "ytjeolfcefeglpaa", sum := "f995dab64ca4820604700f0fa6a0d5024f3870762719eea6dc849660db712b0a", func := "roebuck/roebucklaw15.ClintNone", spec := "clintNone", apart := false, narrowed := true }
def ClintNoneUptoSaid : Prop := clintNoneUptoRow.holds Try.pinned (OpenSpec.upto clintNoneSpec)

/-- 'roebucklaw15.ClintTells', WHERE WHAT IT READS IS OF BULK AT MOST 1048576: true; the input reads as it did. -/
def clintTellsUptoRow : OpenClaim := { program := "ytjeolfcefeglpaa", sum := "f995dab64ca4820604700f0fa6a0d5024f3870762719eea6dc849660db712b0a", func := "roebuck/roebucklaw15.ClintTells", spec := "clintTells", apart := false, narrowed := true }
def ClintTellsUptoSaid : Prop := clintTellsUptoRow.holds Try.pinned (OpenSpec.upto clintTellsSpec)

/-- 'roebucklaw16.PlicPlays', WHERE WHAT IT READS IS OF BULK AT MOST 1048576: true; the input reads as it did. -/
def plicPlaysUptoRow : OpenClaim := { program := "ytjeolfcefeglpaa", sum := "f995dab64ca4820604700f0fa6a0d5024f3870762719eea6dc849660db712b0a", func := "roebuck/roebucklaw16.PlicPlays", spec := "plicPlays", apart := false, narrowed := true }
def PlicPlaysUptoSaid : Prop := plicPlaysUptoRow.holds Try.pinned (OpenSpec.upto plicPlaysSpec)

/-- 'roebucklaw16.PlicNone', WHERE WHAT IT READS IS OF BULK AT MOST 1048576: true; the input reads as it did. -/
def plicNoneUptoRow : OpenClaim := { program := "ytjeolfcefeglpaa", sum := "f995dab64ca4820604700f0fa6a0d5024f3870762719eea6dc849660db712b0a", func := "roebuck/roebucklaw16.PlicNone", spec := "plicNone", apart := false, narrowed := true }
def PlicNoneUptoSaid : Prop := plicNoneUptoRow.holds Try.pinned (OpenSpec.upto plicNoneSpec)

/-- 'roebucklaw16.PlicServes', WHERE WHAT IT READS IS OF BULK AT MOST 1048576: true; the input reads as it did. -/
def plicServesUptoRow : OpenClaim := { program := "ytjeolfcefeglpaa", sum := "f995dab64ca4820604700f0fa6a0d5024f3870762719eea6dc849660db712b0a", func := "roebuck/roebucklaw16.PlicServes", spec := "plicServes", apart := false, narrowed := true }
def PlicServesUptoSaid : Prop := plicServesUptoRow.holds Try.pinned (OpenSpec.upto plicServesSpec)

end Rows
end Go.Proofs.Ytjeolfcefeglpaa
