/-
  No cell of these rows narrows 'for every input' (looked for: loops, veiled, ifaces, maps, wideKeys, modest, calm, conditions, laid).
  DERIVED. THE GIVEN ROWS OF THIS SEAT. 5 by the template 'for every input the law returns true; each argument reads behind the call as it read before'; 0 by the template 'total and deterministic' (their statements: YtihinimgenpijaaTotals.lean).
  GIVEN WITH THE SEED: the statements are not yours to turn. If you find one false, say at which input.
  Laid BY PROGRAM, IN A SANDBOX (cutbox-rows.mjs): the forced cells as the released guide's own fill.sh prints them over the translation df69af761ceac486… (all of the seat's roots in one cut). By AI agents, Wed Nov 11 2026. No macro, syntax, notation, axiom, sorry.
-/
import Derived.Test.YtihinimgenpijaaChecked
import GoSem.Claim
import GoSem.ClaimJoined
import GoSem.ClaimMapViews
import Derived.JoinedTies
import Derived.KernelRfl
namespace Go.Proofs.Ytihinimgenpijaa
/- THE CELL 'sum', in the pinned program and in every row, IS THE sha256 OF THE DUMP (.gsa) THAT YtihinimgenpijaaProg.lean LOADS. Nothing in Lean hashes anything: it is a label: what it is worth is what the hold of that sum in a sandbox is worth. -/
noncomputable def Try.pinned : Pinned := { name := "ytihinimgenpijaa", sum := "df69af761ceac486a8e2d9bba1385833fb2f7097c597dba3cd7578d513808e0b", checked := Try.checked }
namespace Rows
def none {H : Type} : Left H := { results := [], args := [] }

/-- 'roebucklaw17.UartPlays': WHATEVER THE INPUT: true; the input reads as it did. -/
def uartPlaysSpec : ChangeSpec := { name := "uartPlays", fn := fun _ => fun
  | [d1, d2] => { results := [.lit (.bool true)], args := [d1, d2] }
  | _ => none }
def uartPlaysRow : OpenClaim := { program := "ytihinimgenpijaa", sum := "df69af761ceac486a8e2d9bba1385833fb2f7097c597dba3cd7578d513808e0b", func := "roebuck/roebucklaw17.UartPlays", spec := "uartPlays", apart := false }
def UartPlaysSaid : Prop := uartPlaysRow.holds Try.pinned (OpenSpec.ofChange uartPlaysSpec)

/-- ITS FALSE NEIGHBOUR: 'it returns false'. Refute it at one input. -/
def uartPlaysWrong : ChangeSpec := { name := "uartPlays", fn := fun _ => fun
  | [d1, d2] => { results := [.lit (.bool false)], args := [d1, d2] }
  | _ => none }
def UartPlaysWrongFalsely : Prop := uartPlaysRow.holds Try.pinned (OpenSpec.ofChange uartPlaysWrong)

/-- 'roebucklaw17.UartNone': WHATEVER THE INPUT: true; the input reads as it did. -/
def uartNoneSpec : ChangeSpec := { name := "uartNone", fn := fun _ => fun
  | [d1, d2] => { results := [.lit (.bool true)], args := [d1, d2] }
  | _ => none }
def uartNoneRow : OpenClaim := { program := "ytihinimgenpijaa", sum := "df69af761ceac486a8e2d9bba1385833fb2f7097c597dba3cd7578d513808e0b", func := "roebuck/roebucklaw17.UartNone", spec := "uartNone", apart := false }
def UartNoneSaid : Prop := uartNoneRow.holds Try.pinned (OpenSpec.ofChange uartNoneSpec)

/-- ITS FALSE NEIGHBOUR: 'it returns false'. Refute it at one input. -/
def uartNoneWrong : ChangeSpec := { name := "uartNone", fn := fun _ => fun
  | [d1, d2] => { results := [.lit (.bool false)], args := [d1, d2] }
  | _ => none }
def UartNoneWrongFalsely : Prop := uartNoneRow.holds Try.pinned (OpenSpec.ofChange uartNoneWrong)

/-- 'roebucklaw17.UartKeeps': WHATEVER THE INPUT: true; the input reads as it did. -/
def uartKeepsSpec : ChangeSpec := { name := "uartKeeps", fn := fun _ => fun
  | [d1, d2] => { results := [.lit (.bool true)], args := [d1, d2] }
  | _ => none }
def uartKeepsRow : OpenClaim := { program := "ytihinimgenpijaa", sum := "df69af761ceac486a8e2d9bba1385833fb2f7097c597dba3cd7578d513808e0b", func := "roebuck/roebucklaw17.UartKeeps", spec := "uartKeeps", apart := false }
def UartKeepsSaid : Prop := uartKeepsRow.holds Try.pinned (OpenSpec.ofChange uartKeepsSpec)

/-- ITS FALSE NEIGHBOUR: 'it returns false'. Refute it at one input. -/
def uartKeepsWrong : ChangeSpec := { name := "uartKeeps", fn := fun _ => fun
  | [d1, d2] => { results := [.lit (.bool false)], args := [d1, d2] }
  | _ => none }
def UartKeepsWrongFalsely : Prop := uartKeepsRow.holds Try.pinned (OpenSpec.ofChange uartKeepsWrong)

/-- 'roebucklaw18.BusFits': WHATEVER THE INPUT: true; the input reads as it did. -/
def busFitsSpec : ChangeSpec := { name := "busFits", fn := fun _ => fun
  | [d1, d2, d3] => { results := [.lit (.bool true)], args := [d1, d2, d3] }
  | _ => none }
def busFitsRow : OpenClaim := { program := "ytihinimgenpijaa", sum := "df69af761ceac486a8e2d9bba1385833fb2f7097c597dba3cd7578d513808e0b", func := "roebuck/roebucklaw18.BusFits", spec := "busFits", apart := false }
def BusFitsSaid : Prop := busFitsRow.holds Try.pinned (OpenSpec.ofChange busFitsSpec)

/-- ITS FALSE NEIGHBOUR: 'it returns false'. Refute it at one input. -/
def busFitsWrong : ChangeSpec := { name := "busFits", fn := fun _ => fun
  | [d1, d2, d3] => { results := [.lit (.bool false)], args := [d1, d2, d3] }
  | _ => none }
def BusFitsWrongFalsely : Prop := busFitsRow.holds Try.pinned (OpenSpec.ofChange busFitsWrong)

/-- 'roebucklaw18.BusCalls': WHATEVER THE INPUT: true; the input reads as it did. -/
def busCallsSpec : ChangeSpec := { name := "busCalls", fn := fun _ => fun
  | [d1, d2, d3] => { results := [.lit (.bool true)], args := [d1, d2, d3] }
  | _ => none }
def busCallsRow : OpenClaim := { program := "ytihinimgenpijaa", sum := "df69af761ceac486a8e2d9bba1385833fb2f7097c597dba3cd7578d513808e0b", func := "roebuck/roebucklaw18.BusCalls", spec := "busCalls", apart := false }
def BusCallsSaid : Prop := busCallsRow.holds Try.pinned (OpenSpec.ofChange busCallsSpec)

/-- ITS FALSE NEIGHBOUR: 'it returns false'. Refute it at one input. -/
def busCallsWrong : ChangeSpec := { name := "busCalls", fn := fun _ => fun
  | [d1, d2, d3] => { results := [.lit (.bool false)], args := [d1, d2, d3] }
  | _ => none }
def BusCallsWrongFalsely : Prop := busCallsRow.holds Try.pinned (OpenSpec.ofChange busCallsWrong)

/- THE SECOND FORM. 'bulk': how many values and letters a reading holds, each counted each time it is reached (what is shared counts as often as it is met; a slice's spare places count too). A statement '..UptoSaid' is the law's where the arguments, and the package variables that the reading takes, are together of bulk at most 1048576: NARROWER than '..Said'. Prove '..Said' where nothing that the law and all that it calls make is longer than what came in: it says more and counts as full. Else prove '..UptoSaid'. A law counts once. -/
mutual
def uptoBulk {H : Type} : DataW H → Nat
  | .lit (.string bytes) => bytes.length + 1
  | .lit _ => 1
  | .nil => 1
  | .ptr d => uptoBulk d + 1
  | .slice elems spare => uptoBulkAll elems + uptoBulkAll spare + 1
  | .agg parts => uptoBulkAll parts + 1
  | .iface _ d => uptoBulk d + 1
  | .map entries => uptoBulkEntries entries + 1
  | .held _ => 1
def uptoBulkAll {H : Type} : List (DataW H) → Nat
  | [] => 0
  | d :: r => uptoBulk d + uptoBulkAll r
def uptoBulkEntries {H : Type} : List (Lit × DataW H) → Nat
  | [] => 0
  | x :: r => uptoBulkEntry x + uptoBulkEntries r
def uptoBulkEntry {H : Type} : Lit × DataW H → Nat
  | (.string bytes, d) => bytes.length + uptoBulk d + 1
  | (_, d) => uptoBulk d + 1
 end
def uptoSmall : (H : Type) → List (DataW H) → Bool := fun _ ds => decide (uptoBulkAll ds ≤ 1048576)
def OpenSpec.upto (s : _root_.Go.ChangeSpec) : _root_.Go.OpenSpec := { _root_.Go.OpenSpec.ofChange s with cond := some uptoSmall }

/-- 'roebucklaw17.UartPlays', WHERE WHAT IT READS IS OF BULK AT MOST 1048576: true; the input reads as it did. -/
def uartPlaysUptoRow : OpenClaim := { program := "ytihinimgenpijaa", sum := "df69af761ceac486a8e2d9bba1385833fb2f7097c597dba3cd7578d513808e0b", func := "roebuck/roebucklaw17.UartPlays", spec := "uartPlays", apart := false, narrowed := true }
def UartPlaysUptoSaid : Prop := uartPlaysUptoRow.holds Try.pinned (OpenSpec.upto uartPlaysSpec)

/-- 'roebucklaw17.UartNone', WHERE WHAT IT READS IS OF BULK AT MOST 1048576: true; the input reads as it did. -/
def uartNoneUptoRow : OpenClaim := { program := "ytihinimgenpijaa", sum := "df69af761ceac486a8e2d9bba1385833fb2f7097c597dba3cd7578d513808e0b", func := "roebuck/roebucklaw17.UartNone", spec := "uartNone", apart := false, narrowed := true }
def UartNoneUptoSaid : Prop := uartNoneUptoRow.holds Try.pinned (OpenSpec.upto uartNoneSpec)

/-- 'roebucklaw17.UartKeeps', WHERE WHAT IT READS IS OF BULK AT MOST 1048576: true; the input reads as it did. -/
def uartKeepsUptoRow : OpenClaim := { program := "ytihinimgenpijaa", sum := "df69af761ceac486a8e2d9bba1385833fb2f7097c597dba3cd7578d513808e0b", func := "roebuck/roebucklaw17.UartKeeps", spec := "uartKeeps", apart := false, narrowed := true }
def UartKeepsUptoSaid : Prop := uartKeepsUptoRow.holds Try.pinned (OpenSpec.upto uartKeepsSpec)

/-- 'roebucklaw18.BusFits', WHERE WHAT IT READS IS OF BULK AT MOST 1048576: true; the input reads as it did. -/
def busFitsUptoRow : OpenClaim := { program := "ytihinimgenpijaa", sum := "df69af761ceac486a8e2d9bba1385833fb2f7097c597dba3cd7578d513808e0b", func := "roebuck/roebucklaw18.BusFits", spec := "busFits", apart := false, narrowed := true }
def BusFitsUptoSaid : Prop := busFitsUptoRow.holds Try.pinned (OpenSpec.upto busFitsSpec)

/-- 'roebucklaw18.BusCalls', WHERE WHAT IT READS IS OF BULK AT MOST 1048576: true; the input reads as it did. -/
def busCallsUptoRow : OpenClaim := { program := "ytihinimgenpijaa", sum := "df69af761ceac486a8e2d9bba1385833fb2f7097c597dba3cd7578d513808e0b", func := "roebuck/roebucklaw18.BusCalls", spec := "busCalls", apart := false, narrowed := true }
def BusCallsUptoSaid : Prop := busCallsUptoRow.holds Try.pinned (OpenSpec.upto busCallsSpec)

end Rows
end Go.Proofs.Ytihinimgenpijaa
