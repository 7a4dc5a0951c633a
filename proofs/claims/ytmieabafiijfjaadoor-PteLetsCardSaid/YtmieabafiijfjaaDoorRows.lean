/-
  NARROWER THAN 'FOR EVERY INPUT', by the rows' own cells (each row's printed sentence says how): PteLets: laid · PteMarks: laid.
  DERIVED. THE GIVEN ROWS OF THIS SEAT. 2 by the template 'for every input the law returns true; each argument reads behind the call as it read before'; 0 by the template 'total and deterministic' (their statements: YtmieabafiijfjaaDoorTotals.lean).
  GIVEN WITH THE SEED: the statements are not yours to turn. If you find one false, say at which input.
  Laid BY PROGRAM, IN A SANDBOX (cutbox-rows.mjs): the forced cells as the released guide's own fill.sh prints them over the translation 16e4c98a97487d04… (all of the seat's roots in one cut). By AI agents, Wed Nov 11 2026. No macro, syntax, notation, axiom, sorry.
-/
import Derived.Test.YtmieabafiijfjaaDoorChecked
import GoSem.Claim
import GoSem.ClaimJoined
import GoSem.ClaimMapViews
import Derived.JoinedTies
import Derived.KernelRfl
namespace Go.Proofs.YtmieabafiijfjaaDoor
/- THE CELL 'sum', in the pinned program and in every row, IS THE sha256 OF THE DUMP (.gsa) THAT YtmieabafiijfjaaDoorProg.lean LOADS. Nothing in Lean hashes anything: it is a label: what it is worth is what the hold of that sum in a sandbox is worth. -/
noncomputable def Tryd.pinned : Pinned := { name := "ytmieabafiijfjaadoor", sum := "16e4c98a97487d04968879ab37c25dac4aac03040d839e7ab244a615b1c854e3", checked := Tryd.checked }
namespace Rows
def none {H : Type} : Left H := { results := [], args := [] }

/- WHAT THE LISTED PACKAGE-LEVEL VARIABLES READ AS WHEN THE CALL BEGINS. Each datum BY PROGRAM (the guide's laid-datum.mjs) off the statement by which the dump's own 'gosem.cut.vars' lays the variable. In a bare row this is a premise. The card (YtmieabafiijfjaaDoorCards.lean) ties it to the program's text. -/
def laid_roebuck_pte_required {H : Type} : DataW H := .agg [.lit (.int .i64 3), .lit (.int .i64 1), .lit (.int .i64 2)]

/-- 'roebucklaw25.PteLets': WHATEVER THE INPUT: true; the input reads as it did. -/
def pteLetsSpec : ChangeSpec := { name := "pteLets", fn := fun _ => fun
  | [d1, d2, d3] => { results := [.lit (.bool true)], args := [d1, d2, d3] }
  | _ => none }
def pteLetsRow : OpenClaim := { program := "ytmieabafiijfjaadoor", sum := "16e4c98a97487d04968879ab37c25dac4aac03040d839e7ab244a615b1c854e3", func := "roebuck/roebucklaw25.PteLets", spec := "pteLets", named := ["roebuck/pte.required"], apart := false, laid := [("roebuck/pte.required", laid_roebuck_pte_required)] }
def PteLetsSaid : Prop := pteLetsRow.holds Tryd.pinned (OpenSpec.ofChange pteLetsSpec)

/-- ITS FALSE NEIGHBOUR: 'it returns false'. Refute it at one input. -/
def pteLetsWrong : ChangeSpec := { name := "pteLets", fn := fun _ => fun
  | [d1, d2, d3] => { results := [.lit (.bool false)], args := [d1, d2, d3] }
  | _ => none }
def PteLetsWrongFalsely : Prop := pteLetsRow.holds Tryd.pinned (OpenSpec.ofChange pteLetsWrong)

/-- 'roebucklaw25.PteMarks': WHATEVER THE INPUT: true; the input reads as it did. -/
def pteMarksSpec : ChangeSpec := { name := "pteMarks", fn := fun _ => fun
  | [d1, d2, d3] => { results := [.lit (.bool true)], args := [d1, d2, d3] }
  | _ => none }
def pteMarksRow : OpenClaim := { program := "ytmieabafiijfjaadoor", sum := "16e4c98a97487d04968879ab37c25dac4aac03040d839e7ab244a615b1c854e3", func := "roebuck/roebucklaw25.PteMarks", spec := "pteMarks", named := ["roebuck/pte.required"], apart := false, laid := [("roebuck/pte.required", laid_roebuck_pte_required)] }
def PteMarksSaid : Prop := pteMarksRow.holds Tryd.pinned (OpenSpec.ofChange pteMarksSpec)

/-- ITS FALSE NEIGHBOUR: 'it returns false'. Refute it at one input. -/
def pteMarksWrong : ChangeSpec := { name := "pteMarks", fn := fun _ => fun
  | [d1, d2, d3] => { results := [.lit (.bool false)], args := [d1, d2, d3] }
  | _ => none }
def PteMarksWrongFalsely : Prop := pteMarksRow.holds Tryd.pinned (OpenSpec.ofChange pteMarksWrong)

/- THE SECOND FORM. 'bulk': how many values and letters a reading holds, each counted each time it is reached (what is shared counts as often as it is met; a slice's spare places count too). A statement '..UptoSaid' is the law's where the arguments, and the package variables that the reading takes, are together of bulk at most 1048576: NARROWER than '..Said'. Prove '..Said' where nothing that the law and all that it calls make is longer than what came in: it says more and counts as full. Else prove '..UptoSaid'. A law counts once. -/
mutual
def uptoBulk {H : Type} : DataW H → Nat
  | .lit (.string bytes) => bytes.length + 1
  | .lit _ => 1
  | .nil => 1
  | .ptr d => uptoBulk d + 1
  | .slice elems spare => uptoBulkAll elems + uptoBulkAll spare + 1
  | .agg parts => uptoBulkAll parts + 1
  | .iface _ d => uptoBulk d + 1
  | .map entries => uptoBulkEntries entries + 1
  | .held _ => 1
def uptoBulkAll {H : Type} : List (DataW H) → Nat
  | [] => 0
  | d :: r => uptoBulk d + uptoBulkAll r
def uptoBulkEntries {H : Type} : List (Lit × DataW H) → Nat
  | [] => 0
  | x :: r => uptoBulkEntry x + uptoBulkEntries r
def uptoBulkEntry {H : Type} : Lit × DataW H → Nat
  | (.string bytes, d) => bytes.length + uptoBulk d + 1
  | (_, d) => uptoBulk d + 1
 end
def uptoSmall : (H : Type) → List (DataW H) → Bool := fun _ ds => decide (uptoBulkAll ds ≤ 1048576)
def OpenSpec.upto (s : _root_.Go.ChangeSpec) : _root_.Go.OpenSpec := { _root_.Go.OpenSpec.ofChange s with cond := some uptoSmall }

/-- 'roebucklaw25.PteLets', WHERE WHAT IT READS IS OF BULK AT MOST 1048576: true; the input reads as it did. -/
def pteLetsUptoRow : OpenClaim := { program := "ytmieabafiijfjaadoor", sum := "16e4c98a97487d04968879ab37c25dac4aac03040d839e7ab244a615b1c854e3", func := "roebuck/roebucklaw25.PteLets", spec := "pteLets", named := ["roebuck/pte.required"], apart := false, laid := [("roebuck/pte.required", laid_roebuck_pte_required)], narrowed := true }
def PteLetsUptoSaid : Prop := pteLetsUptoRow.holds Tryd.pinned (OpenSpec.upto pteLetsSpec)

/-- 'roebucklaw25.PteMarks', WHERE WHAT IT READS IS OF BULK AT MOST 1048576: true; the input reads as it did. -/
def pteMarksUptoRow : OpenClaim := { program := "ytmieabafiijfjaadoor", sum := "16e4c98a97487d04968879ab37c25dac4aac03040d839e7ab244a615b1c854e3", func := "roebuck/roebucklaw25.PteMarks", spec := "pteMarks", named := ["roebuck/pte.required"], apart := false, laid := [("roebuck/pte.required", laid_roebuck_pte_required)], narrowed := true }
def PteMarksUptoSaid : Prop := pteMarksUptoRow.holds Tryd.pinned (OpenSpec.upto pteMarksSpec)

end Rows
end Go.Proofs.YtmieabafiijfjaaDoor
