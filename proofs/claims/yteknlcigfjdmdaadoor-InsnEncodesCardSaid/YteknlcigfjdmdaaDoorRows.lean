/-
  NARROWER THAN 'FOR EVERY INPUT', by the rows' own cells (each row's printed sentence says how): InsnDecodes: laid · InsnEncodes: laid · InsnBack: laid.
  DERIVED. THE GIVEN ROWS OF THIS SEAT. 3 by the template 'for every input the law returns true; each argument reads behind the call as it read before'; 0 by the template 'total and deterministic' (their statements: YteknlcigfjdmdaaDoorTotals.lean).
  GIVEN WITH THE SEED: the statements are not yours to turn. If you find one false, say at which input.
  Laid BY PROGRAM, IN A SANDBOX (cutbox-rows.mjs): the forced cells as the released guide's own fill.sh prints them over the translation 034b5ee8acb5631c… (all of the seat's roots in one cut). By AI agents, Wed Nov 11 2026. No macro, syntax, notation, axiom, sorry.
-/
import Derived.Test.YteknlcigfjdmdaaDoorChecked
import GoSem.Claim
import GoSem.ClaimJoined
import GoSem.ClaimMapViews
import Derived.JoinedTies
import Derived.KernelRfl
namespace Go.Proofs.YteknlcigfjdmdaaDoor
/- THE CELL 'sum', in the pinned program and in every row, IS THE sha256 OF THE DUMP (.gsa) THAT YteknlcigfjdmdaaDoorProg.lean LOADS. Nothing in Lean hashes anything: it is a label: what it is worth is what the hold of that sum in a sandbox is worth. -/
noncomputable def Tryd.pinned : Pinned := { name := "yteknlcigfjdmdaadoor", sum := "034b5ee8acb5631c92b15e4ecd3d8969bf0abc221579813ba2f18f96455d6fec", checked := Tryd.checked }
namespace Rows
def none {H : Type} : Left H := { results := [], args := [] }

/- WHAT THE LISTED PACKAGE-LEVEL VARIABLES READ AS WHEN THE CALL BEGINS. Each datum BY PROGRAM (the guide's laid-datum.mjs) off the statement by which the dump's own 'gosem.cut.vars' lays the variable. In a bare row this is a premise. The card (YteknlcigfjdmdaaDoorCards.lean) ties it to the program's text. -/
def laid_roebuck_insn_fields {H : Type} : DataW H := .agg [.lit (.int .u8 0), .lit (.int .u8 7), .lit (.int .u8 3), .lit (.int .u8 6), .lit (.int .u8 6), .lit (.int .u8 1), .lit (.int .u8 1), .lit (.int .u8 3), .lit (.int .u8 3), .lit (.int .u8 11), .lit (.int .u8 11), .lit (.int .u8 23), .lit (.int .u8 19), .lit (.int .u8 0), .lit (.int .u8 6)]
def laid_roebuck_insn_values {H : Type} : DataW H := .agg [.lit (.int .u32 0), .lit (.int .u32 55), .lit (.int .u32 23), .lit (.int .u32 111), .lit (.int .u32 103), .lit (.int .u32 99), .lit (.int .u32 4195), .lit (.int .u32 16483), .lit (.int .u32 20579), .lit (.int .u32 24675), .lit (.int .u32 28771), .lit (.int .u32 3), .lit (.int .u32 4099), .lit (.int .u32 8195), .lit (.int .u32 12291), .lit (.int .u32 16387), .lit (.int .u32 20483), .lit (.int .u32 24579), .lit (.int .u32 35), .lit (.int .u32 4131), .lit (.int .u32 8227), .lit (.int .u32 12323), .lit (.int .u32 19), .lit (.int .u32 8211), .lit (.int .u32 12307), .lit (.int .u32 16403), .lit (.int .u32 24595), .lit (.int .u32 28691), .lit (.int .u32 4115), .lit (.int .u32 20499), .lit (.int .u32 1073762323), .lit (.int .u32 51), .lit (.int .u32 1073741875), .lit (.int .u32 4147), .lit (.int .u32 8243), .lit (.int .u32 12339), .lit (.int .u32 16435), .lit (.int .u32 20531), .lit (.int .u32 1073762355), .lit (.int .u32 24627), .lit (.int .u32 28723), .lit (.int .u32 27), .lit (.int .u32 4123), .lit (.int .u32 20507), .lit (.int .u32 1073762331), .lit (.int .u32 59), .lit (.int .u32 1073741883), .lit (.int .u32 4155), .lit (.int .u32 20539), .lit (.int .u32 1073762363), .lit (.int .u32 15), .lit (.int .u32 4111), .lit (.int .u32 115), .lit (.int .u32 1048691), .lit (.int .u32 33554483), .lit (.int .u32 33558579), .lit (.int .u32 33562675), .lit (.int .u32 33566771), .lit (.int .u32 33570867), .lit (.int .u32 33574963), .lit (.int .u32 33579059), .lit (.int .u32 33583155), .lit (.int .u32 33554491), .lit (.int .u32 33570875), .lit (.int .u32 33574971), .lit (.int .u32 33579067), .lit (.int .u32 33583163), .lit (.int .u32 268443695), .lit (.int .u32 402661423), .lit (.int .u32 134225967), .lit (.int .u32 8239), .lit (.int .u32 536879151), .lit (.int .u32 1610620975), .lit (.int .u32 1073750063), .lit (.int .u32 2147491887), .lit (.int .u32 2684362799), .lit (.int .u32 3221233711), .lit (.int .u32 3758104623), .lit (.int .u32 268447791), .lit (.int .u32 402665519), .lit (.int .u32 134230063), .lit (.int .u32 12335), .lit (.int .u32 536883247), .lit (.int .u32 1610625071), .lit (.int .u32 1073754159), .lit (.int .u32 2147495983), .lit (.int .u32 2684366895), .lit (.int .u32 3221237807), .lit (.int .u32 3758108719), .lit (.int .u32 4211), .lit (.int .u32 8307), .lit (.int .u32 12403), .lit (.int .u32 20595), .lit (.int .u32 24691), .lit (.int .u32 28787), .lit (.int .u32 807403635), .lit (.int .u32 270532723), .lit (.int .u32 273678451), .lit (.int .u32 301990003)]

/-- 'roebucklaw03.InsnDecodes': WHATEVER THE INPUT: true; the input reads as it did. -/
def insnDecodesSpec : ChangeSpec := { name := "insnDecodes", fn := fun _ => fun
  | [d] => { results := [.lit (.bool true)], args := [d] }
  | _ => none }
def insnDecodesRow : OpenClaim := { program := "yteknlcigfjdmdaadoor", sum := "034b5ee8acb5631c92b15e4ecd3d8969bf0abc221579813ba2f18f96455d6fec", func := "roebuck/roebucklaw03.InsnDecodes", spec := "insnDecodes", unfollowed := true, recurses := true, named := ["roebuck/insn.values", "roebuck/insn.fields"], apart := false, laid := [("roebuck/insn.fields", laid_roebuck_insn_fields), ("roebuck/insn.values", laid_roebuck_insn_values)] }
def InsnDecodesSaid : Prop := insnDecodesRow.holds Tryd.pinned (OpenSpec.ofChange insnDecodesSpec)

/-- ITS FALSE NEIGHBOUR: 'it returns false'. Refute it at one input. -/
def insnDecodesWrong : ChangeSpec := { name := "insnDecodes", fn := fun _ => fun
  | [d] => { results := [.lit (.bool false)], args := [d] }
  | _ => none }
def InsnDecodesWrongFalsely : Prop := insnDecodesRow.holds Tryd.pinned (OpenSpec.ofChange insnDecodesWrong)

/-- 'roebucklaw03.InsnEncodes': WHATEVER THE INPUT: true; the input reads as it did. -/
def insnEncodesSpec : ChangeSpec := { name := "insnEncodes", fn := fun _ => fun
  | [d] => { results := [.lit (.bool true)], args := [d] }
  | _ => none }
def insnEncodesRow : OpenClaim := { program := "yteknlcigfjdmdaadoor", sum := "034b5ee8acb5631c92b15e4ecd3d8969bf0abc221579813ba2f18f96455d6fec", func := "roebuck/roebucklaw03.InsnEncodes", spec := "insnEncodes", unfollowed := true, recurses := true, named := ["roebuck/insn.values", "roebuck/insn.fields"], apart := false, laid := [("roebuck/insn.fields", laid_roebuck_insn_fields), ("roebuck/insn.values", laid_roebuck_insn_values)] }
def InsnEncodesSaid : Prop := insnEncodesRow.holds Tryd.pinned (OpenSpec.ofChange insnEncodesSpec)

/-- ITS FALSE NEIGHBOUR: 'it returns false'. Refute it at one input. -/
def insnEncodesWrong : ChangeSpec := { name := "insnEncodes", fn := fun _ => fun
  | [d] => { results := [.lit (.bool false)], args := [d] }
  | _ => none }
def InsnEncodesWrongFalsely : Prop := insnEncodesRow.holds Tryd.pinned (OpenSpec.ofChange insnEncodesWrong)

/-- 'roebucklaw03.InsnBack': WHATEVER THE INPUT: true; the input reads as it did. -/
def insnBackSpec : ChangeSpec := { name := "insnBack", fn := fun _ => fun
  | [d1, d2] => { results := [.lit (.bool true)], args := [d1, d2] }
  | _ => none }
def insnBackRow : OpenClaim := { program := "yteknlcigfjdmdaadoor", sum := "034b5ee8acb5631c92b15e4ecd3d8969bf0abc221579813ba2f18f96455d6fec", func := "roebuck/roebucklaw03.InsnBack", spec := "insnBack", unfollowed := true, recurses := true, named := ["roebuck/insn.values", "roebuck/insn.fields"], apart := false, laid := [("roebuck/insn.fields", laid_roebuck_insn_fields), ("roebuck/insn.values", laid_roebuck_insn_values)] }
def InsnBackSaid : Prop := insnBackRow.holds Tryd.pinned (OpenSpec.ofChange insnBackSpec)

/-- ITS FALSE NEIGHBOUR: 'it returns false'. Refute it at one input. -/
def insnBackWrong : ChangeSpec := { name := "insnBack", fn := fun _ => fun
  | [d1, d2] => { results := [.lit (.bool false)], args := [d1, d2] }
  | _ => none }
def InsnBackWrongFalsely : Prop := insnBackRow.holds Tryd.pinned (OpenSpec.ofChange insnBackWrong)

/- THE SECOND FORM. 'bulk': how many values and letters a reading holds, each counted each time it is reached (what is shared counts as often as it is met; a slice's spare places count too). A statement '..UptoSaid' is the law's where the arguments, and the package variables that the reading takes, are together of bulk at most 1048576: NARROWER than '..Said'. Prove '..Said' where nothing that the law and all that it calls make is longer than what came in: it says more and counts as full. Else prove '..UptoSaid'. A law counts once. -/
mutual
def uptoBulk {H : Type} : DataW H → Nat
  | .lit (.string bytes) => bytes.length + 1
  | .lit _ => 1
  | .nil => 1
  | .ptr d => uptoBulk d + 1
  | .slice elems spare => uptoBulkAll elems + uptoBulkAll spare + 1
  | .agg parts => uptoBulkAll parts + 1
  | .iface _ d => uptoBulk d + 1
  | .map entries => uptoBulkEntries entries + 1
  | .held _ => 1
def uptoBulkAll {H : Type} : List (DataW H) → Nat
  | [] => 0
  | d :: r => uptoBulk d + uptoBulkAll r
def uptoBulkEntries {H : Type} : List (Lit × DataW H) → Nat
  | [] => 0
  | x :: r => uptoBulkEntry x + uptoBulkEntries r
def uptoBulkEntry {H : Type} : Lit × DataW H → Nat
  | (.string bytes, d) => bytes.length + uptoBulk d + 1
  | (_, d) => uptoBulk d + 1
 end
def uptoSmall : (H : Type) → List (DataW H) → Bool := fun _ ds => decide (uptoBulkAll ds ≤ 1048576)
def OpenSpec.upto (s : _root_.Go.ChangeSpec) : _root_.Go.OpenSpec := { _root_.Go.OpenSpec.ofChange s with cond := some uptoSmall }

/-- 'roebucklaw03.InsnDecodes', WHERE WHAT IT READS IS OF BULK AT MOST 1048576: true; the input reads as it did. -/
def insnDecodesUptoRow : OpenClaim := { program := "yteknlcigfjdmdaadoor", sum := "034b5ee8acb5631c92b15e4ecd3d8969bf0abc221579813ba2f18f96455d6fec", func := "roebuck/roebucklaw03.InsnDecodes", spec := "insnDecodes", unfollowed := true, recurses := true, named := ["roebuck/insn.values", "roebuck/insn.fields"], apart := false, laid := [("roebuck/insn.fields", laid_roebuck_insn_fields), ("roebuck/insn.values", laid_roebuck_insn_values)], narrowed := true }
def InsnDecodesUptoSaid : Prop := insnDecodesUptoRow.holds Tryd.pinned (OpenSpec.upto insnDecodesSpec)

/-- 'roebucklaw03.InsnEncodes', WHERE WHAT IT READS IS OF BULK AT MOST 1048576: true; the input reads as it did. -/
def insnEncodesUptoRow : OpenClaim := { program := "yteknlcigfjdmdaadoor", sum := "034b5ee8acb5631c92b15e4ecd3d8969bf0abc221579813ba2f18f96455d6fec", func := "roebuck/roebucklaw03.InsnEncodes", spec := "insnEncodes", unfollowed := true, recurses := true, named := ["roebuck/insn.values", "roebuck/insn.fields"], apart := false, laid := [("roebuck/insn.fields", laid_roebuck_insn_fields), ("roebuck/insn.values", laid_roebuck_insn_values)], narrowed := true }
def InsnEncodesUptoSaid : Prop := insnEncodesUptoRow.holds Tryd.pinned (OpenSpec.upto insnEncodesSpec)

/-- 'roebucklaw03.InsnBack', WHERE WHAT IT READS IS OF BULK AT MOST 1048576: true; the input reads as it did. -/
def insnBackUptoRow : OpenClaim := { program := "yteknlcigfjdmdaadoor", sum := "034b5ee8acb5631c92b15e4ecd3d8969bf0abc221579813ba2f18f96455d6fec", func := "roebuck/roebucklaw03.InsnBack", spec := "insnBack", unfollowed := true, recurses := true, named := ["roebuck/insn.values", "roebuck/insn.fields"], apart := false, laid := [("roebuck/insn.fields", laid_roebuck_insn_fields), ("roebuck/insn.values", laid_roebuck_insn_values)], narrowed := true }
def InsnBackUptoSaid : Prop := insnBackUptoRow.holds Tryd.pinned (OpenSpec.upto insnBackSpec)

end Rows
end Go.Proofs.YteknlcigfjdmdaaDoor
