/-
  NARROWER THAN 'FOR EVERY INPUT', by the rows' own cells (each row's printed sentence says how): CauseNames: laid · CauseTakes: laid · CauseFirst: laid · CsrfilePlays: laid · CsrfileMays: laid · CsrfileHides: laid.
  DERIVED. THE GIVEN ROWS OF THIS SEAT. 6 by the template 'for every input the law returns true; each argument reads behind the call as it read before'; 0 by the template 'total and deterministic' (their statements: YtfjdalepaacmgaaDoorTotals.lean).
  GIVEN WITH THE SEED: the statements are not yours to turn. If you find one false, say at which input.
  Laid BY PROGRAM, IN A SANDBOX (cutbox-rows.mjs): the forced cells as the released guide's own fill.sh prints them over the translation de8251bae0b51922… (all of the seat's roots in one cut). By AI agents, Wed Nov 11 2026. No macro, syntax, notation, axiom, sorry.
-/
import Derived.Test.YtfjdalepaacmgaaDoorChecked
import GoSem.Claim
import GoSem.ClaimJoined
import GoSem.ClaimMapViews
import Derived.JoinedTies
import Derived.KernelRfl
namespace Go.Proofs.YtfjdalepaacmgaaDoor
/- THE CELL 'sum', in the pinned program and in every row, IS THE sha256 OF THE DUMP (.gsa) THAT YtfjdalepaacmgaaDoorProg.lean LOADS. Nothing in Lean hashes anything: it is a label: what it is worth is what the hold of that sum in a sandbox is worth. -/
noncomputable def Tryd.pinned : Pinned := { name := "ytfjdalepaacmgaadoor", sum := "de8251bae0b519224d45a80132fc7b4a46b0e028d6aee0e21011c680fdc476ef", checked := Tryd.checked }
namespace Rows
def none {H : Type} : Left H := { results := [], args := [] }

/- WHAT THE LISTED PACKAGE-LEVEL VARIABLES READ AS WHEN THE CALL BEGINS. Each datum BY PROGRAM (the guide's laid-datum.mjs) off the statement by which the dump's own 'gosem.cut.vars' lays the variable. In a bare row this is a premise. The card (YtfjdalepaacmgaaDoorCards.lean) ties it to the program's text. -/
def laid_roebuck_cause_causes {H : Type} : DataW H := .agg [.agg [.agg [.lit (.bool false), .lit (.int .i64 0)], .lit (.string [105, 110, 115, 110, 45, 97, 108, 105, 103, 110])], .agg [.agg [.lit (.bool false), .lit (.int .i64 1)], .lit (.string [105, 110, 115, 110, 45, 102, 97, 117, 108, 116])], .agg [.agg [.lit (.bool false), .lit (.int .i64 2)], .lit (.string [105, 108, 108, 101, 103, 97, 108])], .agg [.agg [.lit (.bool false), .lit (.int .i64 3)], .lit (.string [98, 114, 101, 97, 107])], .agg [.agg [.lit (.bool false), .lit (.int .i64 4)], .lit (.string [108, 111, 97, 100, 45, 97, 108, 105, 103, 110])], .agg [.agg [.lit (.bool false), .lit (.int .i64 5)], .lit (.string [108, 111, 97, 100, 45, 102, 97, 117, 108, 116])], .agg [.agg [.lit (.bool false), .lit (.int .i64 6)], .lit (.string [115, 116, 111, 114, 101, 45, 97, 108, 105, 103, 110])], .agg [.agg [.lit (.bool false), .lit (.int .i64 7)], .lit (.string [115, 116, 111, 114, 101, 45, 102, 97, 117, 108, 116])], .agg [.agg [.lit (.bool false), .lit (.int .i64 8)], .lit (.string [99, 97, 108, 108, 45, 117, 115, 101, 114])], .agg [.agg [.lit (.bool false), .lit (.int .i64 9)], .lit (.string [99, 97, 108, 108, 45, 115, 117, 112, 101, 114])], .agg [.agg [.lit (.bool false), .lit (.int .i64 11)], .lit (.string [99, 97, 108, 108, 45, 109, 97, 99, 104, 105, 110, 101])], .agg [.agg [.lit (.bool false), .lit (.int .i64 12)], .lit (.string [105, 110, 115, 110, 45, 112, 97, 103, 101])], .agg [.agg [.lit (.bool false), .lit (.int .i64 13)], .lit (.string [108, 111, 97, 100, 45, 112, 97, 103, 101])], .agg [.agg [.lit (.bool false), .lit (.int .i64 15)], .lit (.string [115, 116, 111, 114, 101, 45, 112, 97, 103, 101])], .agg [.agg [.lit (.bool true), .lit (.int .i64 1)], .lit (.string [115, 117, 112, 101, 114, 45, 115, 111, 102, 116])], .agg [.agg [.lit (.bool true), .lit (.int .i64 3)], .lit (.string [109, 97, 99, 104, 105, 110, 101, 45, 115, 111, 102, 116])], .agg [.agg [.lit (.bool true), .lit (.int .i64 5)], .lit (.string [115, 117, 112, 101, 114, 45, 116, 105, 109, 101])], .agg [.agg [.lit (.bool true), .lit (.int .i64 7)], .lit (.string [109, 97, 99, 104, 105, 110, 101, 45, 116, 105, 109, 101])], .agg [.agg [.lit (.bool true), .lit (.int .i64 9)], .lit (.string [115, 117, 112, 101, 114, 45, 111, 117, 116, 101, 114])], .agg [.agg [.lit (.bool true), .lit (.int .i64 11)], .lit (.string [109, 97, 99, 104, 105, 110, 101, 45, 111, 117, 116, 101, 114])]]
def laid_roebuck_cause_order {H : Type} : DataW H := .agg [.lit (.int .i64 11), .lit (.int .i64 3), .lit (.int .i64 7), .lit (.int .i64 9), .lit (.int .i64 1), .lit (.int .i64 5)]
def laid_roebuck_csr_rows {H : Type} : DataW H := .agg [.agg [.lit (.int .i64 256), .lit (.string [115, 115, 116, 97, 116, 117, 115]), .lit (.int .u64 786722)], .agg [.lit (.int .i64 260), .lit (.string [115, 105, 101]), .lit (.int .u64 546)], .agg [.lit (.int .i64 261), .lit (.string [115, 116, 118, 101, 99]), .lit (.int .u64 18446744073709551613)], .agg [.lit (.int .i64 262), .lit (.string [115, 99, 111, 117, 110, 116, 101, 114, 101, 110]), .lit (.int .u64 7)], .agg [.lit (.int .i64 320), .lit (.string [115, 115, 99, 114, 97, 116, 99, 104]), .lit (.int .u64 18446744073709551615)], .agg [.lit (.int .i64 321), .lit (.string [115, 101, 112, 99]), .lit (.int .u64 18446744073709551612)], .agg [.lit (.int .i64 322), .lit (.string [115, 99, 97, 117, 115, 101]), .lit (.int .u64 18446744073709551615)], .agg [.lit (.int .i64 323), .lit (.string [115, 116, 118, 97, 108]), .lit (.int .u64 18446744073709551615)], .agg [.lit (.int .i64 324), .lit (.string [115, 105, 112]), .lit (.int .u64 2)], .agg [.lit (.int .i64 384), .lit (.string [115, 97, 116, 112]), .lit (.int .u64 18446744073709551615)], .agg [.lit (.int .i64 768), .lit (.string [109, 115, 116, 97, 116, 117, 115]), .lit (.int .u64 8264106)], .agg [.lit (.int .i64 769), .lit (.string [109, 105, 115, 97]), .lit (.int .u64 0)], .agg [.lit (.int .i64 770), .lit (.string [109, 101, 100, 101, 108, 101, 103]), .lit (.int .u64 46079)], .agg [.lit (.int .i64 771), .lit (.string [109, 105, 100, 101, 108, 101, 103]), .lit (.int .u64 546)], .agg [.lit (.int .i64 772), .lit (.string [109, 105, 101]), .lit (.int .u64 2730)], .agg [.lit (.int .i64 773), .lit (.string [109, 116, 118, 101, 99]), .lit (.int .u64 18446744073709551613)], .agg [.lit (.int .i64 774), .lit (.string [109, 99, 111, 117, 110, 116, 101, 114, 101, 110]), .lit (.int .u64 7)], .agg [.lit (.int .i64 832), .lit (.string [109, 115, 99, 114, 97, 116, 99, 104]), .lit (.int .u64 18446744073709551615)], .agg [.lit (.int .i64 833), .lit (.string [109, 101, 112, 99]), .lit (.int .u64 18446744073709551612)], .agg [.lit (.int .i64 834), .lit (.string [109, 99, 97, 117, 115, 101]), .lit (.int .u64 18446744073709551615)], .agg [.lit (.int .i64 835), .lit (.string [109, 116, 118, 97, 108]), .lit (.int .u64 18446744073709551615)], .agg [.lit (.int .i64 836), .lit (.string [109, 105, 112]), .lit (.int .u64 546)], .agg [.lit (.int .i64 1472), .lit (.string [115, 104, 111, 111, 116, 118, 97]), .lit (.int .u64 18446744073709551615)], .agg [.lit (.int .i64 1473), .lit (.string [115, 104, 111, 111, 116, 97, 115, 105, 100]), .lit (.int .u64 65535)], .agg [.lit (.int .i64 1474), .lit (.string [115, 104, 111, 111, 116]), .lit (.int .u64 1023)], .agg [.lit (.int .i64 2816), .lit (.string [109, 99, 121, 99, 108, 101]), .lit (.int .u64 18446744073709551615)], .agg [.lit (.int .i64 2818), .lit (.string [109, 105, 110, 115, 116, 114, 101, 116]), .lit (.int .u64 18446744073709551615)], .agg [.lit (.int .i64 3072), .lit (.string [99, 121, 99, 108, 101]), .lit (.int .u64 0)], .agg [.lit (.int .i64 3073), .lit (.string [116, 105, 109, 101]), .lit (.int .u64 0)], .agg [.lit (.int .i64 3074), .lit (.string [105, 110, 115, 116, 114, 101, 116]), .lit (.int .u64 0)], .agg [.lit (.int .i64 3857), .lit (.string [109, 118, 101, 110, 100, 111, 114, 105, 100]), .lit (.int .u64 0)], .agg [.lit (.int .i64 3858), .lit (.string [109, 97, 114, 99, 104, 105, 100]), .lit (.int .u64 0)], .agg [.lit (.int .i64 3859), .lit (.string [109, 105, 109, 112, 105, 100]), .lit (.int .u64 0)], .agg [.lit (.int .i64 3860), .lit (.string [109, 104, 97, 114, 116, 105, 100]), .lit (.int .u64 0)]]
def laid_roebuck_csrfile_kept {H : Type} : DataW H := .agg [.lit (.int .i64 261), .lit (.int .i64 262), .lit (.int .i64 320), .lit (.int .i64 321), .lit (.int .i64 322), .lit (.int .i64 323), .lit (.int .i64 384), .lit (.int .i64 768), .lit (.int .i64 770), .lit (.int .i64 771), .lit (.int .i64 772), .lit (.int .i64 773), .lit (.int .i64 774), .lit (.int .i64 832), .lit (.int .i64 833), .lit (.int .i64 834), .lit (.int .i64 835), .lit (.int .i64 836), .lit (.int .i64 1472), .lit (.int .i64 1473), .lit (.int .i64 2816), .lit (.int .i64 2818)]

/-- 'roebucklaw21.CauseNames': WHATEVER THE INPUT: true; the input reads as it did. -/
def causeNamesSpec : ChangeSpec := { name := "causeNames", fn := fun _ => fun
  | [d1, d2, d3] => { results := [.lit (.bool true)], args := [d1, d2, d3] }
  | _ => none }
def causeNamesRow : OpenClaim := { program := "ytfjdalepaacmgaadoor", sum := "de8251bae0b519224d45a80132fc7b4a46b0e028d6aee0e21011c680fdc476ef", func := "roebuck/roebucklaw21.CauseNames", spec := "causeNames", unfollowed := true, recurses := true, named := ["roebuck/cause.order", "roebuck/cause.causes"], apart := false, laid := [("roebuck/cause.causes", laid_roebuck_cause_causes), ("roebuck/cause.order", laid_roebuck_cause_order)] }
def CauseNamesSaid : Prop := causeNamesRow.holds Tryd.pinned (OpenSpec.ofChange causeNamesSpec)

/-- ITS FALSE NEIGHBOUR: 'it returns false'. Refute it at one input. -/
def causeNamesWrong : ChangeSpec := { name := "causeNames", fn := fun _ => fun
  | [d1, d2, d3] => { results := [.lit (.bool false)], args := [d1, d2, d3] }
  | _ => none }
def CauseNamesWrongFalsely : Prop := causeNamesRow.holds Tryd.pinned (OpenSpec.ofChange causeNamesWrong)

/-- 'roebucklaw21.CauseTakes': WHATEVER THE INPUT: true; the input reads as it did. -/
def causeTakesSpec : ChangeSpec := { name := "causeTakes", fn := fun _ => fun
  | [d1, d2, d3] => { results := [.lit (.bool true)], args := [d1, d2, d3] }
  | _ => none }
def causeTakesRow : OpenClaim := { program := "ytfjdalepaacmgaadoor", sum := "de8251bae0b519224d45a80132fc7b4a46b0e028d6aee0e21011c680fdc476ef", func := "roebuck/roebucklaw21.CauseTakes", spec := "causeTakes", named := ["roebuck/cause.order"], apart := false, laid := [("roebuck/cause.order", laid_roebuck_cause_order)] }
def CauseTakesSaid : Prop := causeTakesRow.holds Tryd.pinned (OpenSpec.ofChange causeTakesSpec)

/-- ITS FALSE NEIGHBOUR: 'it returns false'. Refute it at one input. -/
def causeTakesWrong : ChangeSpec := { name := "causeTakes", fn := fun _ => fun
  | [d1, d2, d3] => { results := [.lit (.bool false)], args := [d1, d2, d3] }
  | _ => none }
def CauseTakesWrongFalsely : Prop := causeTakesRow.holds Tryd.pinned (OpenSpec.ofChange causeTakesWrong)

/-- 'roebucklaw21.CauseFirst': WHATEVER THE INPUT: true; the input reads as it did. -/
def causeFirstSpec : ChangeSpec := { name := "causeFirst", fn := fun _ => fun
  | [d] => { results := [.lit (.bool true)], args := [d] }
  | _ => none }
def causeFirstRow : OpenClaim := { program := "ytfjdalepaacmgaadoor", sum := "de8251bae0b519224d45a80132fc7b4a46b0e028d6aee0e21011c680fdc476ef", func := "roebuck/roebucklaw21.CauseFirst", spec := "causeFirst", named := ["roebuck/cause.order"], apart := false, laid := [("roebuck/cause.order", laid_roebuck_cause_order)] }
def CauseFirstSaid : Prop := causeFirstRow.holds Tryd.pinned (OpenSpec.ofChange causeFirstSpec)

/-- ITS FALSE NEIGHBOUR: 'it returns false'. Refute it at one input. -/
def causeFirstWrong : ChangeSpec := { name := "causeFirst", fn := fun _ => fun
  | [d] => { results := [.lit (.bool false)], args := [d] }
  | _ => none }
def CauseFirstWrongFalsely : Prop := causeFirstRow.holds Tryd.pinned (OpenSpec.ofChange causeFirstWrong)

/-- 'roebucklaw22.CsrfilePlays': WHATEVER THE INPUT: true; the input reads as it did. -/
def csrfilePlaysSpec : ChangeSpec := { name := "csrfilePlays", fn := fun _ => fun
  | [d1, d2, d3] => { results := [.lit (.bool true)], args := [d1, d2, d3] }
  | _ => none }
def csrfilePlaysRow : OpenClaim := { program := "ytfjdalepaacmgaadoor", sum := "de8251bae0b519224d45a80132fc7b4a46b0e028d6aee0e21011c680fdc476ef", func := "roebuck/roebucklaw22.CsrfilePlays", spec := "csrfilePlays", unfollowed := true, recurses := true, named := ["roebuck/csrfile.kept", "roebuck/csr.rows"], apart := false, laid := [("roebuck/csr.rows", laid_roebuck_csr_rows), ("roebuck/csrfile.kept", laid_roebuck_csrfile_kept)] }
def CsrfilePlaysSaid : Prop := csrfilePlaysRow.holds Tryd.pinned (OpenSpec.ofChange csrfilePlaysSpec)

/-- ITS FALSE NEIGHBOUR: 'it returns false'. Refute it at one input. -/
def csrfilePlaysWrong : ChangeSpec := { name := "csrfilePlays", fn := fun _ => fun
  | [d1, d2, d3] => { results := [.lit (.bool false)], args := [d1, d2, d3] }
  | _ => none }
def CsrfilePlaysWrongFalsely : Prop := csrfilePlaysRow.holds Tryd.pinned (OpenSpec.ofChange csrfilePlaysWrong)

/-- 'roebucklaw22.CsrfileMays': WHATEVER THE INPUT: true; the input reads as it did. -/
def csrfileMaysSpec : ChangeSpec := { name := "csrfileMays", fn := fun _ => fun
  | [d1, d2, d3] => { results := [.lit (.bool true)], args := [d1, d2, d3] }
  | _ => none }
def csrfileMaysRow : OpenClaim := { program := "ytfjdalepaacmgaadoor", sum := "de8251bae0b519224d45a80132fc7b4a46b0e028d6aee0e21011c680fdc476ef", func := "roebuck/roebucklaw22.CsrfileMays", spec := "csrfileMays", unfollowed := true, recurses := true, named := ["roebuck/csr.rows", "roebuck/csrfile.kept"], apart := false, laid := [("roebuck/csr.rows", laid_roebuck_csr_rows), ("roebuck/csrfile.kept", laid_roebuck_csrfile_kept)] }
def CsrfileMaysSaid : Prop := csrfileMaysRow.holds Tryd.pinned (OpenSpec.ofChange csrfileMaysSpec)

/-- ITS FALSE NEIGHBOUR: 'it returns false'. Refute it at one input. -/
def csrfileMaysWrong : ChangeSpec := { name := "csrfileMays", fn := fun _ => fun
  | [d1, d2, d3] => { results := [.lit (.bool false)], args := [d1, d2, d3] }
  | _ => none }
def CsrfileMaysWrongFalsely : Prop := csrfileMaysRow.holds Tryd.pinned (OpenSpec.ofChange csrfileMaysWrong)

/-- 'roebucklaw22.CsrfileHides': WHATEVER THE INPUT: true; the input reads as it did. -/
def csrfileHidesSpec : ChangeSpec := { name := "csrfileHides", fn := fun _ => fun
  | [d1, d2, d3] => { results := [.lit (.bool true)], args := [d1, d2, d3] }
  | _ => none }
def csrfileHidesRow : OpenClaim := { program := "ytfjdalepaacmgaadoor", sum := "de8251bae0b519224d45a80132fc7b4a46b0e028d6aee0e21011c680fdc476ef", func := "roebuck/roebucklaw22.CsrfileHides", spec := "csrfileHides", unfollowed := true, recurses := true, named := ["roebuck/csrfile.kept", "roebuck/csr.rows"], apart := false, laid := [("roebuck/csr.rows", laid_roebuck_csr_rows), ("roebuck/csrfile.kept", laid_roebuck_csrfile_kept)] }
def CsrfileHidesSaid : Prop := csrfileHidesRow.holds Tryd.pinned (OpenSpec.ofChange csrfileHidesSpec)

/-- ITS FALSE NEIGHBOUR: 'it returns false'. Refute it at one input. -/
def csrfileHidesWrong : ChangeSpec := { name := "csrfileHides", fn := fun _ => fun
  | [d1, d2, d3] => { results := [.lit (.bool false)], args := [d1, d2, d3] }
  | _ => none }
def CsrfileHidesWrongFalsely : Prop := csrfileHidesRow.holds Tryd.pinned (OpenSpec.ofChange csrfileHidesWrong)

/- THE SECOND FORM. 'bulk': how many values and letters a reading holds, each counted each time it is reached (what is shared counts as often as it is met; a slice's spare places count too). A statement '..UptoSaid' is the law's where the arguments, and the package variables that the reading takes, are together of bulk at most 1048576: NARROWER than '..Said'. Prove '..Said' where nothing that the law and all that it calls make is longer than what came in: it says more and counts as full. Else prove '..UptoSaid'. A law counts once. -/
mutual
def uptoBulk {H : Type} : DataW H → Nat
  | .lit (.string bytes) => bytes.length + 1
  | .lit _ => 1
  | .nil => 1
  | .ptr d => uptoBulk d + 1
  | .slice elems spare => uptoBulkAll elems + uptoBulkAll spare + 1
  | .agg parts => uptoBulkAll parts + 1
  | .iface _ d => uptoBulk d + 1
  | .map entries => uptoBulkEntries entries + 1
  | .held _ => 1
def uptoBulkAll {H : Type} : List (DataW H) → Nat
  | [] => 0
  | d :: r => uptoBulk d + uptoBulkAll r
def uptoBulkEntries {H : Type} : List (Lit × DataW H) → Nat
  | [] => 0
  | x :: r => uptoBulkEntry x + uptoBulkEntries r
def uptoBulkEntry {H : Type} : Lit × DataW H → Nat
  | (.string bytes, d) => bytes.length + uptoBulk d + 1
  | (_, d) => uptoBulk d + 1
 end
def uptoSmall : (H : Type) → List (DataW H) → Bool := fun _ ds => decide (uptoBulkAll ds ≤ 1048576)
def OpenSpec.upto (s : _root_.Go.ChangeSpec) : _root_.Go.OpenSpec := { _root_.Go.OpenSpec.ofChange s with cond := some uptoSmall }

/-- 'roebucklaw21.CauseNames', WHERE WHAT IT READS IS OF BULK AT MOST 1048576: true; the input reads as it did. -/
def causeNamesUptoRow : OpenClaim := { program := "ytfjdalepaacmgaadoor", sum := "de8251bae0b519224d45a80132fc7b4a46b0e028d6aee0e21011c680fdc476ef", func := "roebuck/roebucklaw21.CauseNames", spec := "causeNames", unfollowed := true, recurses := true, named := ["roebuck/cause.order", "roebuck/cause.causes"], apart := false, laid := [("roebuck/cause.causes", laid_roebuck_cause_causes), ("roebuck/cause.order", laid_roebuck_cause_order)], narrowed := true }
def CauseNamesUptoSaid : Prop := causeNamesUptoRow.holds Tryd.pinned (OpenSpec.upto causeNamesSpec)

/-- 'roebucklaw21.CauseTakes', WHERE WHAT IT READS IS OF BULK AT MOST 1048576: true; the input reads as it did. -/
def causeTakesUptoRow : OpenClaim := { program := "ytfjdalepaacmgaadoor", sum := "de8251bae0b519224d45a80132fc7b4a46b0e028d6aee0e21011c680fdc476ef", func := "roebuck/roebucklaw21.CauseTakes", spec := "causeTakes", named := ["roebuck/cause.order"], apart := false, laid := [("roebuck/cause.order", laid_roebuck_cause_order)], narrowed := true }
def CauseTakesUptoSaid : Prop := causeTakesUptoRow.holds Tryd.pinned (OpenSpec.upto causeTakesSpec)

/-- 'roebucklaw21.CauseFirst', WHERE WHAT IT READS IS OF BULK AT MOST 1048576: true; the input reads as it did. -/
def causeFirstUptoRow : OpenClaim := { program := "ytfjdalepaacmgaadoor", sum := "de8251bae0b519224d45a80132fc7b4a46b0e028d6aee0e21011c680fdc476ef", func := "roebuck/roebucklaw21.CauseFirst", spec := "causeFirst", named := ["roebuck/cause.order"], apart := false, laid := [("roebuck/cause.order", laid_roebuck_cause_order)], narrowed := true }
def CauseFirstUptoSaid : Prop := causeFirstUptoRow.holds Tryd.pinned (OpenSpec.upto causeFirstSpec)

/-- 'roebucklaw22.CsrfilePlays', WHERE WHAT IT READS IS OF BULK AT MOST 1048576: true; the input reads as it did. -/
def csrfilePlaysUptoRow : OpenClaim := { program := "ytfjdalepaacmgaadoor", sum := "de8251bae0b519224d45a80132fc7b4a46b0e028d6aee0e21011c680fdc476ef", func := "roebuck/roebucklaw22.CsrfilePlays", spec := "csrfilePlays", unfollowed := true, recurses := true, named := ["roebuck/csrfile.kept", "roebuck/csr.rows"], apart := false, laid := [("roebuck/csr.rows", laid_roebuck_csr_rows), ("roebuck/csrfile.kept", laid_roebuck_csrfile_kept)], narrowed := true }
def CsrfilePlaysUptoSaid : Prop := csrfilePlaysUptoRow.holds Tryd.pinned (OpenSpec.upto csrfilePlaysSpec)

/-- 'roebucklaw22.CsrfileMays', WHERE WHAT IT READS IS OF BULK AT MOST 1048576: true; the input reads as it did. -/
def csrfileMaysUptoRow : OpenClaim := { program := "ytfjdalepaacmgaadoor", sum := "de8251bae0b519224d45a80132fc7b4a46b0e028d6aee0e21011c680fdc476ef", func := "roebuck/roebucklaw22.CsrfileMays", spec := "csrfileMays", unfollowed := true, recurses := true, named := ["roebuck/csr.rows", "roebuck/csrfile.kept"], apart := false, laid := [("roebuck/csr.rows", laid_roebuck_csr_rows), ("roebuck/csrfile.kept", laid_roebuck_csrfile_kept)], narrowed := true }
def CsrfileMaysUptoSaid : Prop := csrfileMaysUptoRow.holds Tryd.pinned (OpenSpec.upto csrfileMaysSpec)

/-- 'roebucklaw22.CsrfileHides', WHERE WHAT IT READS IS OF BULK AT MOST 1048576: true; the input reads as it did. -/
def csrfileHidesUptoRow : OpenClaim := { program := "ytfjdalepaacmgaadoor", sum := "de8251bae0b519224d45a80132fc7b4a46b0e028d6aee0e21011c680fdc476ef", func := "roebuck/roebucklaw22.CsrfileHides", spec := "csrfileHides", unfollowed := true, recurses := true, named := ["roebuck/csrfile.kept", "roebuck/csr.rows"], apart := false, laid := [("roebuck/csr.rows", laid_roebuck_csr_rows), ("roebuck/csrfile.kept", laid_roebuck_csrfile_kept)], narrowed := true }
def CsrfileHidesUptoSaid : Prop := csrfileHidesUptoRow.holds Tryd.pinned (OpenSpec.upto csrfileHidesSpec)

end Rows
end Go.Proofs.YtfjdalepaacmgaaDoor
