/-
  NARROWER THAN 'FOR EVERY INPUT', by the rows' own cells (each row's printed sentence says how): CsrTells: laid · CsrAll: laid · CsrBecomes: laid · StatusViews: laid · StatusBack: laid.
  DERIVED. THE GIVEN ROWS OF THIS SEAT. 5 by the template 'for every input the law returns true; each argument reads behind the call as it read before'; 0 by the template 'total and deterministic' (their statements: YtkknfhbaldeigaaDoorTotals.lean).
  GIVEN WITH THE SEED: the statements are not yours to turn. If you find one false, say at which input.
  Laid BY PROGRAM, IN A SANDBOX (cutbox-rows.mjs): the forced cells as the released guide's own fill.sh prints them over the translation ad5460ad647df140… (all of the seat's roots in one cut). By AI agents, Wed Nov 11 2026. No macro, syntax, notation, axiom, sorry.
-/
import Derived.Test.YtkknfhbaldeigaaDoorChecked
import GoSem.Claim
import GoSem.ClaimJoined
import GoSem.ClaimMapViews
import Derived.JoinedTies
import Derived.KernelRfl
namespace Go.Proofs.YtkknfhbaldeigaaDoor
/- THE CELL 'sum', in the pinned program and in every row, IS THE sha256 OF THE DUMP (.gsa) THAT YtkknfhbaldeigaaDoorProg.lean LOADS. Nothing in Lean hashes anything: it is a label: what it is worth is what the hold of that sum in a sandbox is worth. -/
noncomputable def Tryd.pinned : Pinned := { name := "ytkknfhbaldeigaadoor", sum := "ad5460ad647df1408e7f4a98c2a373b6292f55af21c9b9d989f5c095b16f1989", checked := Tryd.checked }
namespace Rows
def none {H : Type} : Left H := { results := [], args := [] }

/- WHAT THE LISTED PACKAGE-LEVEL VARIABLES READ AS WHEN THE CALL BEGINS. Each datum BY PROGRAM (the guide's laid-datum.mjs) off the statement by which the dump's own 'gosem.cut.vars' lays the variable. In a bare row this is a premise. The card (YtkknfhbaldeigaaDoorCards.lean) ties it to the program's text. -/
def laid_roebuck_csr_rows {H : Type} : DataW H := .agg [.agg [.lit (.int .i64 256), .lit (.string [115, 115, 116, 97, 116, 117, 115]), .lit (.int .u64 786722)], .agg [.lit (.int .i64 260), .lit (.string [115, 105, 101]), .lit (.int .u64 546)], .agg [.lit (.int .i64 261), .lit (.string [115, 116, 118, 101, 99]), .lit (.int .u64 18446744073709551613)], .agg [.lit (.int .i64 262), .lit (.string [115, 99, 111, 117, 110, 116, 101, 114, 101, 110]), .lit (.int .u64 7)], .agg [.lit (.int .i64 320), .lit (.string [115, 115, 99, 114, 97, 116, 99, 104]), .lit (.int .u64 18446744073709551615)], .agg [.lit (.int .i64 321), .lit (.string [115, 101, 112, 99]), .lit (.int .u64 18446744073709551612)], .agg [.lit (.int .i64 322), .lit (.string [115, 99, 97, 117, 115, 101]), .lit (.int .u64 18446744073709551615)], .agg [.lit (.int .i64 323), .lit (.string [115, 116, 118, 97, 108]), .lit (.int .u64 18446744073709551615)], .agg [.lit (.int .i64 324), .lit (.string [115, 105, 112]), .lit (.int .u64 2)], .agg [.lit (.int .i64 384), .lit (.string [115, 97, 116, 112]), .lit (.int .u64 18446744073709551615)], .agg [.lit (.int .i64 768), .lit (.string [109, 115, 116, 97, 116, 117, 115]), .lit (.int .u64 8264106)], .agg [.lit (.int .i64 769), .lit (.string [109, 105, 115, 97]), .lit (.int .u64 0)], .agg [.lit (.int .i64 770), .lit (.string [109, 101, 100, 101, 108, 101, 103]), .lit (.int .u64 46079)], .agg [.lit (.int .i64 771), .lit (.string [109, 105, 100, 101, 108, 101, 103]), .lit (.int .u64 546)], .agg [.lit (.int .i64 772), .lit (.string [109, 105, 101]), .lit (.int .u64 2730)], .agg [.lit (.int .i64 773), .lit (.string [109, 116, 118, 101, 99]), .lit (.int .u64 18446744073709551613)], .agg [.lit (.int .i64 774), .lit (.string [109, 99, 111, 117, 110, 116, 101, 114, 101, 110]), .lit (.int .u64 7)], .agg [.lit (.int .i64 832), .lit (.string [109, 115, 99, 114, 97, 116, 99, 104]), .lit (.int .u64 18446744073709551615)], .agg [.lit (.int .i64 833), .lit (.string [109, 101, 112, 99]), .lit (.int .u64 18446744073709551612)], .agg [.lit (.int .i64 834), .lit (.string [109, 99, 97, 117, 115, 101]), .lit (.int .u64 18446744073709551615)], .agg [.lit (.int .i64 835), .lit (.string [109, 116, 118, 97, 108]), .lit (.int .u64 18446744073709551615)], .agg [.lit (.int .i64 836), .lit (.string [109, 105, 112]), .lit (.int .u64 546)], .agg [.lit (.int .i64 1472), .lit (.string [115, 104, 111, 111, 116, 118, 97]), .lit (.int .u64 18446744073709551615)], .agg [.lit (.int .i64 1473), .lit (.string [115, 104, 111, 111, 116, 97, 115, 105, 100]), .lit (.int .u64 65535)], .agg [.lit (.int .i64 1474), .lit (.string [115, 104, 111, 111, 116]), .lit (.int .u64 1023)], .agg [.lit (.int .i64 2816), .lit (.string [109, 99, 121, 99, 108, 101]), .lit (.int .u64 18446744073709551615)], .agg [.lit (.int .i64 2818), .lit (.string [109, 105, 110, 115, 116, 114, 101, 116]), .lit (.int .u64 18446744073709551615)], .agg [.lit (.int .i64 3072), .lit (.string [99, 121, 99, 108, 101]), .lit (.int .u64 0)], .agg [.lit (.int .i64 3073), .lit (.string [116, 105, 109, 101]), .lit (.int .u64 0)], .agg [.lit (.int .i64 3074), .lit (.string [105, 110, 115, 116, 114, 101, 116]), .lit (.int .u64 0)], .agg [.lit (.int .i64 3857), .lit (.string [109, 118, 101, 110, 100, 111, 114, 105, 100]), .lit (.int .u64 0)], .agg [.lit (.int .i64 3858), .lit (.string [109, 97, 114, 99, 104, 105, 100]), .lit (.int .u64 0)], .agg [.lit (.int .i64 3859), .lit (.string [109, 105, 109, 112, 105, 100]), .lit (.int .u64 0)], .agg [.lit (.int .i64 3860), .lit (.string [109, 104, 97, 114, 116, 105, 100]), .lit (.int .u64 0)]]

/-- 'roebucklaw19.CsrTells': WHATEVER THE INPUT: true; the input reads as it did. -/
def csrTellsSpec : ChangeSpec := { name := "csrTells", fn := fun _ => fun
  | [d1, d2, d3] => { results := [.lit (.bool true)], args := [d1, d2, d3] }
  | _ => none }
def csrTellsRow : OpenClaim := { program := "ytkknfhbaldeigaadoor", sum := "ad5460ad647df1408e7f4a98c2a373b6292f55af21c9b9d989f5c095b16f1989", func := "roebuck/roebucklaw19.CsrTells", spec := "csrTells", unfollowed := true, recurses := true, named := ["roebuck/csr.rows"], apart := false, laid := [("roebuck/csr.rows", laid_roebuck_csr_rows)] }
def CsrTellsSaid : Prop := csrTellsRow.holds Tryd.pinned (OpenSpec.ofChange csrTellsSpec)

/-- ITS FALSE NEIGHBOUR: 'it returns false'. Refute it at one input. -/
def csrTellsWrong : ChangeSpec := { name := "csrTells", fn := fun _ => fun
  | [d1, d2, d3] => { results := [.lit (.bool false)], args := [d1, d2, d3] }
  | _ => none }
def CsrTellsWrongFalsely : Prop := csrTellsRow.holds Tryd.pinned (OpenSpec.ofChange csrTellsWrong)

/-- 'roebucklaw19.CsrAll': WHATEVER THE INPUT: true; the input reads as it did. -/
def csrAllSpec : ChangeSpec := { name := "csrAll", fn := fun _ => fun
  | [d] => { results := [.lit (.bool true)], args := [d] }
  | _ => none }
def csrAllRow : OpenClaim := { program := "ytkknfhbaldeigaadoor", sum := "ad5460ad647df1408e7f4a98c2a373b6292f55af21c9b9d989f5c095b16f1989", func := "roebuck/roebucklaw19.CsrAll", spec := "csrAll", unfollowed := true, recurses := true, named := ["roebuck/csr.rows"], apart := false, laid := [("roebuck/csr.rows", laid_roebuck_csr_rows)] }
def CsrAllSaid : Prop := csrAllRow.holds Tryd.pinned (OpenSpec.ofChange csrAllSpec)

/-- ITS FALSE NEIGHBOUR: 'it returns false'. Refute it at one input. -/
def csrAllWrong : ChangeSpec := { name := "csrAll", fn := fun _ => fun
  | [d] => { results := [.lit (.bool false)], args := [d] }
  | _ => none }
def CsrAllWrongFalsely : Prop := csrAllRow.holds Tryd.pinned (OpenSpec.ofChange csrAllWrong)

/-- 'roebucklaw19.CsrBecomes': WHATEVER THE INPUT: true; the input reads as it did. -/
def csrBecomesSpec : ChangeSpec := { name := "csrBecomes", fn := fun _ => fun
  | [d1, d2, d3] => { results := [.lit (.bool true)], args := [d1, d2, d3] }
  | _ => none }
def csrBecomesRow : OpenClaim := { program := "ytkknfhbaldeigaadoor", sum := "ad5460ad647df1408e7f4a98c2a373b6292f55af21c9b9d989f5c095b16f1989", func := "roebuck/roebucklaw19.CsrBecomes", spec := "csrBecomes", unfollowed := true, recurses := true, named := ["roebuck/csr.rows"], apart := false, laid := [("roebuck/csr.rows", laid_roebuck_csr_rows)] }
def CsrBecomesSaid : Prop := csrBecomesRow.holds Tryd.pinned (OpenSpec.ofChange csrBecomesSpec)

/-- ITS FALSE NEIGHBOUR: 'it returns false'. Refute it at one input. -/
def csrBecomesWrong : ChangeSpec := { name := "csrBecomes", fn := fun _ => fun
  | [d1, d2, d3] => { results := [.lit (.bool false)], args := [d1, d2, d3] }
  | _ => none }
def CsrBecomesWrongFalsely : Prop := csrBecomesRow.holds Tryd.pinned (OpenSpec.ofChange csrBecomesWrong)

/-- 'roebucklaw20.StatusViews': WHATEVER THE INPUT: true; the input reads as it did. -/
def statusViewsSpec : ChangeSpec := { name := "statusViews", fn := fun _ => fun
  | [d1, d2, d3] => { results := [.lit (.bool true)], args := [d1, d2, d3] }
  | _ => none }
def statusViewsRow : OpenClaim := { program := "ytkknfhbaldeigaadoor", sum := "ad5460ad647df1408e7f4a98c2a373b6292f55af21c9b9d989f5c095b16f1989", func := "roebuck/roebucklaw20.StatusViews", spec := "statusViews", unfollowed := true, recurses := true, named := ["roebuck/csr.rows"], apart := false, laid := [("roebuck/csr.rows", laid_roebuck_csr_rows)] }
def StatusViewsSaid : Prop := statusViewsRow.holds Tryd.pinned (OpenSpec.ofChange statusViewsSpec)

/-- ITS FALSE NEIGHBOUR: 'it returns false'. Refute it at one input. -/
def statusViewsWrong : ChangeSpec := { name := "statusViews", fn := fun _ => fun
  | [d1, d2, d3] => { results := [.lit (.bool false)], args := [d1, d2, d3] }
  | _ => none }
def StatusViewsWrongFalsely : Prop := statusViewsRow.holds Tryd.pinned (OpenSpec.ofChange statusViewsWrong)

/-- 'roebucklaw20.StatusBack': WHATEVER THE INPUT: true; the input reads as it did. -/
def statusBackSpec : ChangeSpec := { name := "statusBack", fn := fun _ => fun
  | [d1, d2, d3] => { results := [.lit (.bool true)], args := [d1, d2, d3] }
  | _ => none }
def statusBackRow : OpenClaim := { program := "ytkknfhbaldeigaadoor", sum := "ad5460ad647df1408e7f4a98c2a373b6292f55af21c9b9d989f5c095b16f1989", func := "roebuck/roebucklaw20.StatusBack", spec := "statusBack", unfollowed := true, recurses := true, named := ["roebuck/csr.rows"], apart := false, laid := [("roebuck/csr.rows", laid_roebuck_csr_rows)] }
def StatusBackSaid : Prop := statusBackRow.holds Tryd.pinned (OpenSpec.ofChange statusBackSpec)

/-- ITS FALSE NEIGHBOUR: 'it returns false'. Refute it at one input. -/
def statusBackWrong : ChangeSpec := { name := "statusBack", fn := fun _ => fun
  | [d1, d2, d3] => { results := [.lit (.bool false)], args := [d1, d2, d3] }
  | _ => none }
def StatusBackWrongFalsely : Prop := statusBackRow.holds Tryd.pinned (OpenSpec.ofChange statusBackWrong)

/- THE SECOND FORM. 'bulk': how many values and letters a reading holds, each counted each time it is reached (what is shared counts as often as it is met; a slice's spare places count too). A statement '..UptoSaid' is the law's where the arguments, and the package variables that the reading takes, are together of bulk at most 1048576: NARROWER than '..Said'. Prove '..Said' where nothing that the law and all that it calls make is longer than what came in: it says more and counts as full. Else prove '..UptoSaid'. A law counts once. -/
mutual
def uptoBulk {H : Type} : DataW H → Nat
  | .lit (.string bytes) => bytes.length + 1
  | .lit _ => 1
  | .nil => 1
  | .ptr d => uptoBulk d + 1
  | .slice elems spare => uptoBulkAll elems + uptoBulkAll spare + 1
  | .agg parts => uptoBulkAll parts + 1
  | .iface _ d => uptoBulk d + 1
  | .map entries => uptoBulkEntries entries + 1
  | .held _ => 1
def uptoBulkAll {H : Type} : List (DataW H) → Nat
  | [] => 0
  | d :: r => uptoBulk d + uptoBulkAll r
def uptoBulkEntries {H : Type} : List (Lit × DataW H) → Nat
  | [] => 0
  | x :: r => uptoBulkEntry x + uptoBulkEntries r
def uptoBulkEntry {H : Type} : Lit × DataW H → Nat
  | (.string bytes, d) => bytes.length + uptoBulk d + 1
  | (_, d) => uptoBulk d + 1
 end
def uptoSmall : (H : Type) → List (DataW H) → Bool := fun _ ds => decide (uptoBulkAll ds ≤ 1048576)
def OpenSpec.upto (s : _root_.Go.ChangeSpec) : _root_.Go.OpenSpec := { _root_.Go.OpenSpec.ofChange s with cond := some uptoSmall }

/-- 'roebucklaw19.CsrTells', WHERE WHAT IT READS IS OF BULK AT MOST 1048576: true; the input reads as it did. -/
def csrTellsUptoRow : OpenClaim := { program := "ytkknfhbaldeigaadoor", sum := "ad5460ad647df1408e7f4a98c2a373b6292f55af21c9b9d989f5c095b16f1989", func := "roebuck/roebucklaw19.CsrTells", spec := "csrTells", unfollowed := true, recurses := true, named := ["roebuck/csr.rows"], apart := false, laid := [("roebuck/csr.rows", laid_roebuck_csr_rows)], narrowed := true }
def CsrTellsUptoSaid : Prop := csrTellsUptoRow.holds Tryd.pinned (OpenSpec.upto csrTellsSpec)

/-- 'roebucklaw19.CsrAll', WHERE WHAT IT READS IS OF BULK AT MOST 1048576: true; the input reads as it did. -/
def csrAllUptoRow : OpenClaim := { program := "ytkknfhbaldeigaadoor", sum := "ad5460ad647df1408e7f4a98c2a373b6292f55af21c9b9d989f5c095b16f1989", func := "roebuck/roebucklaw19.CsrAll", spec := "csrAll", unfollowed := true, recurses := true, named := ["roebuck/csr.rows"], apart := false, laid := [("roebuck/csr.rows", laid_roebuck_csr_rows)], narrowed := true }
def CsrAllUptoSaid : Prop := csrAllUptoRow.holds Tryd.pinned (OpenSpec.upto csrAllSpec)

/-- 'roebucklaw19.CsrBecomes', WHERE WHAT IT READS IS OF BULK AT MOST 1048576: true; the input reads as it did. -/
def csrBecomesUptoRow : OpenClaim := { program := "ytkknfhbaldeigaadoor", sum := "ad5460ad647df1408e7f4a98c2a373b6292f55af21c9b9d989f5c095b16f1989", func := "roebuck/roebucklaw19.CsrBecomes", spec := "csrBecomes", unfollowed := true, recurses := true, named := ["roebuck/csr.rows"], apart := false, laid := [("roebuck/csr.rows", laid_roebuck_csr_rows)], narrowed := true }
def CsrBecomesUptoSaid : Prop := csrBecomesUptoRow.holds Tryd.pinned (OpenSpec.upto csrBecomesSpec)

/-- 'roebucklaw20.StatusViews', WHERE WHAT IT READS IS OF BULK AT MOST 1048576: true; the input reads as it did. -/
def statusViewsUptoRow : OpenClaim := { program := "ytkknfhbaldeigaadoor", sum := "ad5460ad647df1408e7f4a98c2a373b6292f55af21c9b9d989f5c095b16f1989", func := "roebuck/roebucklaw20.StatusViews", spec := "statusViews", unfollowed := true, recurses := true, named := ["roebuck/csr.rows"], apart := false, laid := [("roebuck/csr.rows", laid_roebuck_csr_rows)], narrowed := true }
def StatusViewsUptoSaid : Prop := statusViewsUptoRow.holds Tryd.pinned (OpenSpec.upto statusViewsSpec)

/-- 'roebucklaw20.StatusBack', WHERE WHAT IT READS IS OF BULK AT MOST 1048576: true; the input reads as it did. -/
def statusBackUptoRow : OpenClaim := { program := "ytkknfhbaldeigaadoor", sum := "ad5460ad647df1408e7f4a98c2a373b6292f55af21c9b9d989f5c095b16f1989", func := "roebuck/roebucklaw20.StatusBack", spec := "statusBack", unfollowed := true, recurses := true, named := ["roebuck/csr.rows"], apart := false, laid := [("roebuck/csr.rows", laid_roebuck_csr_rows)], narrowed := true }
def StatusBackUptoSaid : Prop := statusBackUptoRow.holds Tryd.pinned (OpenSpec.upto statusBackSpec)

end Rows
end Go.Proofs.YtkknfhbaldeigaaDoor
