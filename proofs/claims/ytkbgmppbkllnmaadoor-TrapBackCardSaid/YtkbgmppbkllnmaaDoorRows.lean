/-
  NARROWER THAN 'FOR EVERY INPUT', by the rows' own cells (each row's printed sentence says how): TrapEnters: laid · TrapBack: laid · IrqNext: laid · IrqRises: laid · TopApart: laid.
  DERIVED. THE GIVEN ROWS OF THIS SEAT. 5 by the template 'for every input the law returns true; each argument reads behind the call as it read before'; 0 by the template 'total and deterministic' (their statements: YtkbgmppbkllnmaaDoorTotals.lean).
  GIVEN WITH THE SEED: the statements are not yours to turn. If you find one false, say at which input.
  Laid BY PROGRAM, IN A SANDBOX (cutbox-rows.mjs): the forced cells as the released guide's own fill.sh prints them over the translation d702b60332d8981a… (all of the seat's roots in one cut). By AI agents, Wed Nov 11 2026. No macro, syntax, notation, axiom, sorry.
-/
import Derived.Test.YtkbgmppbkllnmaaDoorChecked
import GoSem.Claim
import GoSem.ClaimJoined
import GoSem.ClaimMapViews
import Derived.JoinedTies
import Derived.KernelRfl
namespace Go.Proofs.YtkbgmppbkllnmaaDoor
/- THE CELL 'sum', in the pinned program and in every row, IS THE sha256 OF THE DUMP (.gsa) THAT YtkbgmppbkllnmaaDoorProg.lean LOADS. Nothing in Lean hashes anything: it is a label: what it is worth is what the hold of that sum in a sandbox is worth. -/
noncomputable def Tryd.pinned : Pinned := { name := "ytkbgmppbkllnmaadoor", sum := "d702b60332d8981a147ce20e253e959334cf5891a38255b89d2072698186c342", checked := Tryd.checked }
namespace Rows
def none {H : Type} : Left H := { results := [], args := [] }

/- WHAT THE LISTED PACKAGE-LEVEL VARIABLES READ AS WHEN THE CALL BEGINS. Each datum BY PROGRAM (the guide's laid-datum.mjs) off the statement by which the dump's own 'gosem.cut.vars' lays the variable. In a bare row this is a premise. The card (YtkbgmppbkllnmaaDoorCards.lean) ties it to the program's text. -/
def laid_roebuck_csr_rows {H : Type} : DataW H := .agg [.agg [.lit (.int .i64 256), .lit (.string [115, 115, 116, 97, 116, 117, 115]), .lit (.int .u64 786722)], .agg [.lit (.int .i64 260), .lit (.string [115, 105, 101]), .lit (.int .u64 546)], .agg [.lit (.int .i64 261), .lit (.string [115, 116, 118, 101, 99]), .lit (.int .u64 18446744073709551613)], .agg [.lit (.int .i64 262), .lit (.string [115, 99, 111, 117, 110, 116, 101, 114, 101, 110]), .lit (.int .u64 7)], .agg [.lit (.int .i64 320), .lit (.string [115, 115, 99, 114, 97, 116, 99, 104]), .lit (.int .u64 18446744073709551615)], .agg [.lit (.int .i64 321), .lit (.string [115, 101, 112, 99]), .lit (.int .u64 18446744073709551612)], .agg [.lit (.int .i64 322), .lit (.string [115, 99, 97, 117, 115, 101]), .lit (.int .u64 18446744073709551615)], .agg [.lit (.int .i64 323), .lit (.string [115, 116, 118, 97, 108]), .lit (.int .u64 18446744073709551615)], .agg [.lit (.int .i64 324), .lit (.string [115, 105, 112]), .lit (.int .u64 2)], .agg [.lit (.int .i64 384), .lit (.string [115, 97, 116, 112]), .lit (.int .u64 18446744073709551615)], .agg [.lit (.int .i64 768), .lit (.string [109, 115, 116, 97, 116, 117, 115]), .lit (.int .u64 8264106)], .agg [.lit (.int .i64 769), .lit (.string [109, 105, 115, 97]), .lit (.int .u64 0)], .agg [.lit (.int .i64 770), .lit (.string [109, 101, 100, 101, 108, 101, 103]), .lit (.int .u64 46079)], .agg [.lit (.int .i64 771), .lit (.string [109, 105, 100, 101, 108, 101, 103]), .lit (.int .u64 546)], .agg [.lit (.int .i64 772), .lit (.string [109, 105, 101]), .lit (.int .u64 2730)], .agg [.lit (.int .i64 773), .lit (.string [109, 116, 118, 101, 99]), .lit (.int .u64 18446744073709551613)], .agg [.lit (.int .i64 774), .lit (.string [109, 99, 111, 117, 110, 116, 101, 114, 101, 110]), .lit (.int .u64 7)], .agg [.lit (.int .i64 832), .lit (.string [109, 115, 99, 114, 97, 116, 99, 104]), .lit (.int .u64 18446744073709551615)], .agg [.lit (.int .i64 833), .lit (.string [109, 101, 112, 99]), .lit (.int .u64 18446744073709551612)], .agg [.lit (.int .i64 834), .lit (.string [109, 99, 97, 117, 115, 101]), .lit (.int .u64 18446744073709551615)], .agg [.lit (.int .i64 835), .lit (.string [109, 116, 118, 97, 108]), .lit (.int .u64 18446744073709551615)], .agg [.lit (.int .i64 836), .lit (.string [109, 105, 112]), .lit (.int .u64 546)], .agg [.lit (.int .i64 1472), .lit (.string [115, 104, 111, 111, 116, 118, 97]), .lit (.int .u64 18446744073709551615)], .agg [.lit (.int .i64 1473), .lit (.string [115, 104, 111, 111, 116, 97, 115, 105, 100]), .lit (.int .u64 65535)], .agg [.lit (.int .i64 1474), .lit (.string [115, 104, 111, 111, 116]), .lit (.int .u64 1023)], .agg [.lit (.int .i64 2816), .lit (.string [109, 99, 121, 99, 108, 101]), .lit (.int .u64 18446744073709551615)], .agg [.lit (.int .i64 2818), .lit (.string [109, 105, 110, 115, 116, 114, 101, 116]), .lit (.int .u64 18446744073709551615)], .agg [.lit (.int .i64 3072), .lit (.string [99, 121, 99, 108, 101]), .lit (.int .u64 0)], .agg [.lit (.int .i64 3073), .lit (.string [116, 105, 109, 101]), .lit (.int .u64 0)], .agg [.lit (.int .i64 3074), .lit (.string [105, 110, 115, 116, 114, 101, 116]), .lit (.int .u64 0)], .agg [.lit (.int .i64 3857), .lit (.string [109, 118, 101, 110, 100, 111, 114, 105, 100]), .lit (.int .u64 0)], .agg [.lit (.int .i64 3858), .lit (.string [109, 97, 114, 99, 104, 105, 100]), .lit (.int .u64 0)], .agg [.lit (.int .i64 3859), .lit (.string [109, 105, 109, 112, 105, 100]), .lit (.int .u64 0)], .agg [.lit (.int .i64 3860), .lit (.string [109, 104, 97, 114, 116, 105, 100]), .lit (.int .u64 0)]]
def laid_roebuck_csrfile_kept {H : Type} : DataW H := .agg [.lit (.int .i64 261), .lit (.int .i64 262), .lit (.int .i64 320), .lit (.int .i64 321), .lit (.int .i64 322), .lit (.int .i64 323), .lit (.int .i64 384), .lit (.int .i64 768), .lit (.int .i64 770), .lit (.int .i64 771), .lit (.int .i64 772), .lit (.int .i64 773), .lit (.int .i64 774), .lit (.int .i64 832), .lit (.int .i64 833), .lit (.int .i64 834), .lit (.int .i64 835), .lit (.int .i64 836), .lit (.int .i64 1472), .lit (.int .i64 1473), .lit (.int .i64 2816), .lit (.int .i64 2818)]
def laid_roebuck_cause_order {H : Type} : DataW H := .agg [.lit (.int .i64 11), .lit (.int .i64 3), .lit (.int .i64 7), .lit (.int .i64 9), .lit (.int .i64 1), .lit (.int .i64 5)]

/-- 'roebucklaw23.TrapEnters': WHATEVER THE INPUT: true; the input reads as it did. -/
def trapEntersSpec : ChangeSpec := { name := "trapEnters", fn := fun _ => fun
  | [d1, d2, d3] => { results := [.lit (.bool true)], args := [d1, d2, d3] }
  | _ => none }
def trapEntersRow : OpenClaim := { program := "ytkbgmppbkllnmaadoor", sum := "d702b60332d8981a147ce20e253e959334cf5891a38255b89d2072698186c342", func := "roebuck/roebucklaw23.TrapEnters", spec := "trapEnters", unfollowed := true, recurses := true, named := ["roebuck/csrfile.kept", "roebuck/csr.rows"], apart := false, laid := [("roebuck/csr.rows", laid_roebuck_csr_rows), ("roebuck/csrfile.kept", laid_roebuck_csrfile_kept)] }
def TrapEntersSaid : Prop := trapEntersRow.holds Tryd.pinned (OpenSpec.ofChange trapEntersSpec)

/-- ITS FALSE NEIGHBOUR: 'it returns false'. Refute it at one input. -/
def trapEntersWrong : ChangeSpec := { name := "trapEnters", fn := fun _ => fun
  | [d1, d2, d3] => { results := [.lit (.bool false)], args := [d1, d2, d3] }
  | _ => none }
def TrapEntersWrongFalsely : Prop := trapEntersRow.holds Tryd.pinned (OpenSpec.ofChange trapEntersWrong)

/-- 'roebucklaw23.TrapBack': WHATEVER THE INPUT: true; the input reads as it did. -/
def trapBackSpec : ChangeSpec := { name := "trapBack", fn := fun _ => fun
  | [d1, d2] => { results := [.lit (.bool true)], args := [d1, d2] }
  | _ => none }
def trapBackRow : OpenClaim := { program := "ytkbgmppbkllnmaadoor", sum := "d702b60332d8981a147ce20e253e959334cf5891a38255b89d2072698186c342", func := "roebuck/roebucklaw23.TrapBack", spec := "trapBack", unfollowed := true, recurses := true, named := ["roebuck/csrfile.kept", "roebuck/csr.rows"], apart := false, laid := [("roebuck/csr.rows", laid_roebuck_csr_rows), ("roebuck/csrfile.kept", laid_roebuck_csrfile_kept)] }
def TrapBackSaid : Prop := trapBackRow.holds Tryd.pinned (OpenSpec.ofChange trapBackSpec)

/-- ITS FALSE NEIGHBOUR: 'it returns false'. Refute it at one input. -/
def trapBackWrong : ChangeSpec := { name := "trapBack", fn := fun _ => fun
  | [d1, d2] => { results := [.lit (.bool false)], args := [d1, d2] }
  | _ => none }
def TrapBackWrongFalsely : Prop := trapBackRow.holds Tryd.pinned (OpenSpec.ofChange trapBackWrong)

/-- 'roebucklaw24.IrqNext': WHATEVER THE INPUT: true; the input reads as it did. -/
def irqNextSpec : ChangeSpec := { name := "irqNext", fn := fun _ => fun
  | [d1, d2, d3] => { results := [.lit (.bool true)], args := [d1, d2, d3] }
  | _ => none }
def irqNextRow : OpenClaim := { program := "ytkbgmppbkllnmaadoor", sum := "d702b60332d8981a147ce20e253e959334cf5891a38255b89d2072698186c342", func := "roebuck/roebucklaw24.IrqNext", spec := "irqNext", unfollowed := true, recurses := true, named := ["roebuck/csrfile.kept", "roebuck/cause.order", "roebuck/csr.rows"], apart := false, laid := [("roebuck/cause.order", laid_roebuck_cause_order), ("roebuck/csr.rows", laid_roebuck_csr_rows), ("roebuck/csrfile.kept", laid_roebuck_csrfile_kept)] }
def IrqNextSaid : Prop := irqNextRow.holds Tryd.pinned (OpenSpec.ofChange irqNextSpec)

/-- ITS FALSE NEIGHBOUR: 'it returns false'. Refute it at one input. -/
def irqNextWrong : ChangeSpec := { name := "irqNext", fn := fun _ => fun
  | [d1, d2, d3] => { results := [.lit (.bool false)], args := [d1, d2, d3] }
  | _ => none }
def IrqNextWrongFalsely : Prop := irqNextRow.holds Tryd.pinned (OpenSpec.ofChange irqNextWrong)

/-- 'roebucklaw24.IrqRises': WHATEVER THE INPUT: true; the input reads as it did. -/
def irqRisesSpec : ChangeSpec := { name := "irqRises", fn := fun _ => fun
  | [d1, d2, d3] => { results := [.lit (.bool true)], args := [d1, d2, d3] }
  | _ => none }
def irqRisesRow : OpenClaim := { program := "ytkbgmppbkllnmaadoor", sum := "d702b60332d8981a147ce20e253e959334cf5891a38255b89d2072698186c342", func := "roebuck/roebucklaw24.IrqRises", spec := "irqRises", unfollowed := true, recurses := true, named := ["roebuck/csrfile.kept", "roebuck/csr.rows", "roebuck/cause.order"], apart := false, laid := [("roebuck/cause.order", laid_roebuck_cause_order), ("roebuck/csr.rows", laid_roebuck_csr_rows), ("roebuck/csrfile.kept", laid_roebuck_csrfile_kept)] }
def IrqRisesSaid : Prop := irqRisesRow.holds Tryd.pinned (OpenSpec.ofChange irqRisesSpec)

/-- ITS FALSE NEIGHBOUR: 'it returns false'. Refute it at one input. -/
def irqRisesWrong : ChangeSpec := { name := "irqRises", fn := fun _ => fun
  | [d1, d2, d3] => { results := [.lit (.bool false)], args := [d1, d2, d3] }
  | _ => none }
def IrqRisesWrongFalsely : Prop := irqRisesRow.holds Tryd.pinned (OpenSpec.ofChange irqRisesWrong)

/-- 'roebucktop.TopApart': WHATEVER THE INPUT: true; the input reads as it did. -/
def topApartSpec : ChangeSpec := { name := "topApart", fn := fun _ => fun
  | [d1, d2, d3] => { results := [.lit (.bool true)], args := [d1, d2, d3] }
  | _ => none }
def topApartRow : OpenClaim := { program := "ytkbgmppbkllnmaadoor", sum := "d702b60332d8981a147ce20e253e959334cf5891a38255b89d2072698186c342", func := "roebuck/roebucktop.TopApart", spec := "topApart", unfollowed := true, recurses := true, named := ["roebuck/csrfile.kept", "roebuck/csr.rows", "roebuck/cause.order"], apart := false, laid := [("roebuck/cause.order", laid_roebuck_cause_order), ("roebuck/csr.rows", laid_roebuck_csr_rows), ("roebuck/csrfile.kept", laid_roebuck_csrfile_kept)] }
def TopApartSaid : Prop := topApartRow.holds Tryd.pinned (OpenSpec.ofChange topApartSpec)

/-- ITS FALSE NEIGHBOUR: 'it returns false'. Refute it at one input. -/
def topApartWrong : ChangeSpec := { name := "topApart", fn := fun _ => fun
  | [d1, d2, d3] => { results := [.lit (.bool false)], args := [d1, d2, d3] }
  | _ => none }
def TopApartWrongFalsely : Prop := topApartRow.holds Tryd.pinned (OpenSpec.ofChange topApartWrong)

/- THE SECOND FORM. 'bulk': how many values and letters a reading holds, each counted each time it is reached (what is shared counts as often as it is met; a slice's spare places count too). A statement '..UptoSaid' is the law's where the arguments, and the package variables that the reading takes, are together of bulk at most 1048576: NARROWER than '..Said'. Prove '..Said' where nothing that the law and all that it calls make is longer than what came in: it says more and counts as full. Else prove '..UptoSaid'. A law counts once. -/
mutual
def uptoBulk {H : Type} : DataW H → Nat
  | .lit (.string bytes) => bytes.length + 1
  | .lit _ => 1
  | .nil => 1
  | .ptr d => uptoBulk d + 1
  | .slice elems spare => uptoBulkAll elems + uptoBulkAll spare + 1
  | .agg parts => uptoBulkAll parts + 1
  | .iface _ d => uptoBulk d + 1
  | .map entries => uptoBulkEntries entries + 1
  | .held _ => 1
def uptoBulkAll {H : Type} : List (DataW H) → Nat
  | [] => 0
  | d :: r => uptoBulk d + uptoBulkAll r
def uptoBulkEntries {H : Type} : List (Lit × DataW H) → Nat
  | [] => 0
  | x :: r => uptoBulkEntry x + uptoBulkEntries r
def uptoBulkEntry {H : Type} : Lit × DataW H → Nat
  | (.string bytes, d) => bytes.length + uptoBulk d + 1
  | (_, d) => uptoBulk d + 1
 end
def uptoSmall : (H : Type) → List (DataW H) → Bool := fun _ ds => decide (uptoBulkAll ds ≤ 1048576)
def OpenSpec.upto (s : _root_.Go.ChangeSpec) : _root_.Go.OpenSpec := { _root_.Go.OpenSpec.ofChange s with cond := some uptoSmall }

/-- 'roebucklaw23.TrapEnters', WHERE WHAT IT READS IS OF BULK AT MOST 1048576: true; the input reads as it did. -/
def trapEntersUptoRow : OpenClaim := { program := "ytkbgmppbkllnmaadoor", sum := "d702b60332d8981a147ce20e253e959334cf5891a38255b89d2072698186c342", func := "roebuck/roebucklaw23.TrapEnters", spec := "trapEnters", unfollowed := true, recurses := true, named := ["roebuck/csrfile.kept", "roebuck/csr.rows"], apart := false, laid := [("roebuck/csr.rows", laid_roebuck_csr_rows), ("roebuck/csrfile.kept", laid_roebuck_csrfile_kept)], narrowed := true }
def TrapEntersUptoSaid : Prop := trapEntersUptoRow.holds Tryd.pinned (OpenSpec.upto trapEntersSpec)

/-- 'roebucklaw23.TrapBack', WHERE WHAT IT READS IS OF BULK AT MOST 1048576: true; the input reads as it did. -/
def trapBackUptoRow : OpenClaim := { program := "ytkbgmppbkllnmaadoor", sum := "d702b60332d8981a147ce20e253e959334cf5891a38255b89d2072698186c342", func := "roebuck/roebucklaw23.TrapBack", spec := "trapBack", unfollowed := true, recurses := true, named := ["roebuck/csrfile.kept", "roebuck/csr.rows"], apart := false, laid := [("roebuck/csr.rows", laid_roebuck_csr_rows), ("roebuck/csrfile.kept", laid_roebuck_csrfile_kept)], narrowed := true }
def TrapBackUptoSaid : Prop := trapBackUptoRow.holds Tryd.pinned (OpenSpec.upto trapBackSpec)

/-- 'roebucklaw24.IrqNext', WHERE WHAT IT READS IS OF BULK AT MOST 1048576: true; the input reads as it did. -/
def irqNextUptoRow : OpenClaim := { program := "ytkbgmppbkllnmaadoor", sum := "d702b60332d8981a147ce20e253e959334cf5891a38255b89d2072698186c342", func := "roebuck/roebucklaw24.IrqNext", spec := "irqNext", unfollowed := true, recurses := true, named := ["roebuck/csrfile.kept", "roebuck/cause.order", "roebuck/csr.rows"], apart := false, laid := [("roebuck/cause.order", laid_roebuck_cause_order), ("roebuck/csr.rows", laid_roebuck_csr_rows), ("roebuck/csrfile.kept", laid_roebuck_csrfile_kept)], narrowed := true }
def IrqNextUptoSaid : Prop := irqNextUptoRow.holds Tryd.pinned (OpenSpec.upto irqNextSpec)

/-- 'roebucklaw24.IrqRises', WHERE WHAT IT READS IS OF BULK AT MOST 1048576: true; the input reads as it did. -/
def irqRisesUptoRow : OpenClaim := { program := "ytkbgmppbkllnmaadoor", sum := "d702b60332d8981a147ce20e253e959334cf5891a38255b89d2072698186c342", func := "roebuck/roebucklaw24.IrqRises", spec := "irqRises", unfollowed := true, recurses := true, named := ["roebuck/csrfile.kept", "roebuck/csr.rows", "roebuck/cause.order"], apart := false, laid := [("roebuck/cause.order", laid_roebuck_cause_order), ("roebuck/csr.rows", laid_roebuck_csr_rows), ("roebuck/csrfile.kept", laid_roebuck_csrfile_kept)], narrowed := true }
def IrqRisesUptoSaid : Prop := irqRisesUptoRow.holds Tryd.pinned (OpenSpec.upto irqRisesSpec)

/-- 'roebucktop.TopApart', WHERE WHAT IT READS IS OF BULK AT MOST 1048576: true; the input reads as it did. -/
def topApartUptoRow : OpenClaim := { program := "ytkbgmppbkllnmaadoor", sum := "d702b60332d8981a147ce20e253e959334cf5891a38255b89d2072698186c342", func := "roebuck/roebucktop.TopApart", spec := "topApart", unfollowed := true, recurses := true, named := ["roebuck/csrfile.kept", "roebuck/csr.rows", "roebuck/cause.order"], apart := false, laid := [("roebuck/cause.order", laid_roebuck_cause_order), ("roebuck/csr.rows", laid_roebuck_csr_rows), ("roebuck/csrfile.kept", laid_roebuck_csrfile_kept)], narrowed := true }
def TopApartUptoSaid : Prop := topApartUptoRow.holds Tryd.pinned (OpenSpec.upto topApartSpec)

end Rows
end Go.Proofs.YtkbgmppbkllnmaaDoor
