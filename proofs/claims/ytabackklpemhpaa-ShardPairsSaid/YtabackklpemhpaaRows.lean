/-
  No cell of these rows narrows 'for every input' (looked for: loops, veiled, ifaces, maps, wideKeys, modest, calm, conditions, laid).
  DERIVED. THE GIVEN ROWS OF THIS SEAT. 3 by the template 'for every input the law returns true; each argument reads behind the call as it read before'; 0 by the template 'total and deterministic' (their statements: YtabackklpemhpaaTotals.lean).
  GIVEN WITH THE SEED: the statements are not yours to turn. If you find one false, say at which input.
  Laid BY PROGRAM, IN A SANDBOX (cutbox-rows.mjs): the forced cells as the released guide's own fill.sh prints them over the translation 7d01234ccc44c5d0… (all of the seat's roots in one cut). By AI agents, Wed Nov 11 2026. No macro, syntax, notation, axiom, sorry.
-/
import Derived.Test.YtabackklpemhpaaChecked
import GoSem.Claim
import GoSem.ClaimJoined
import GoSem.ClaimMapViews
import Derived.JoinedTies
import Derived.KernelRfl
namespace Go.Proofs.Ytabackklpemhpaa
/- THE CELL 'sum', in the pinned program and in every row, IS THE sha256 OF THE DUMP (.gsa) THAT YtabackklpemhpaaProg.lean LOADS. Nothing in Lean hashes anything: it is a label: what it is worth is what the hold of that sum in a sandbox is worth. -/
noncomputable def Try.pinned : Pinned := { name := "ytabackklpemhpaa", sum := "7d01234ccc44c5d06468ceffc94d3e126eeba4fd9ec08116a96b3638f8addb6e", checked := Try.checked }
namespace Rows
def none {H : Type} : Left H := { results := [], args := [] }

/-- 'roebucklaw13.ResvPlay': WHATEVER THE INPUT: true; the input reads as it did. -/
def resvPlaySpec : ChangeSpec := { name := "resvPlay", fn := fun _ => fun
  | [d1, d2] => { results := [.lit (.bool true)], args := [d1, d2] }
  | _ => none }
def resvPlayRow : OpenClaim := { program := "ytabackklpemhpaa", sum := "7d01234ccc44c5d06468ceffc94d3e126eeba4fd9ec08116a96b3638f8addb6e", func := "roebuck/roebucklaw13.ResvPlay", spec := "resvPlay", recurses := true, plainKeys := false, apart := false }
def ResvPlaySaid : Prop := resvPlayRow.holds Try.pinned (OpenSpec.ofChange resvPlaySpec)

/-- ITS FALSE NEIGHBOUR: 'it returns false'. Refute it at one input. -/
def resvPlayWrong : ChangeSpec := { name := "resvPlay", fn := fun _ => fun
  | [d1, d2] => { results := [.lit (.bool false)], args := [d1, d2] }
  | _ => none }
def ResvPlayWrongFalsely : Prop := resvPlayRow.holds Try.pinned (OpenSpec.ofChange resvPlayWrong)

/-- 'roebucklaw13.ResvKills': WHATEVER THE INPUT: true; the input reads as it did. -/
def resvKillsSpec : ChangeSpec := { name := "resvKills", fn := fun _ => fun
  | [d1, d2, d3] => { results := [.lit (.bool true)], args := [d1, d2, d3] }
  | _ => none }
def resvKillsRow : OpenClaim := { program := "ytabackklpemhpaa", sum := "7d01234ccc44c5d06468ceffc94d3e126eeba4fd9ec08116a96b3638f8addb6e", func := "roebuck/roebucklaw13.ResvKills", spec := "resvKills", recurses := true, plainKeys := false, apart := false }
def ResvKillsSaid : Prop := resvKillsRow.holds Try.pinned (OpenSpec.ofChange resvKillsSpec)

/-- ITS FALSE NEIGHBOUR: 'it returns false'. Refute it at one input. -/
def resvKillsWrong : ChangeSpec := { name := "resvKills", fn := fun _ => fun
  | [d1, d2, d3] => { results := [.lit (.bool false)], args := [d1, d2, d3] }
  | _ => none }
def ResvKillsWrongFalsely : Prop := resvKillsRow.holds Try.pinned (OpenSpec.ofChange resvKillsWrong)

/-- 'roebucklaw14.ShardPairs': WHATEVER THE INPUT: true; the input reads as it did. -/
def shardPairsSpec : ChangeSpec := { name := "shardPairs", fn := fun _ => fun
  | [d] => { results := [.lit (.bool true)], args := [d] }
  | _ => none }
def shardPairsRow : OpenClaim := { program := "ytabackklpemhpaa", sum := "7d01234ccc44c5d06468ceffc94d3e126eeba4fd9ec08116a96b3638f8addb6e", func := "roebuck/roebucklaw14.ShardPairs", spec := "shardPairs", plainKeys := false, apart := false }
def ShardPairsSaid : Prop := shardPairsRow.holds Try.pinned (OpenSpec.ofChange shardPairsSpec)

/-- ITS FALSE NEIGHBOUR: 'it returns false'. Refute it at one input. -/
def shardPairsWrong : ChangeSpec := { name := "shardPairs", fn := fun _ => fun
  | [d] => { results := [.lit (.bool false)], args := [d] }
  | _ => none }
def ShardPairsWrongFalsely : Prop := shardPairsRow.holds Try.pinned (OpenSpec.ofChange shardPairsWrong)

/- THE SECOND FORM. 'bulk': how many values and letters a reading holds, each counted each time it is reached (what is shared counts as often as it is met; a slice's spare places count too). A statement '..UptoSaid' is the law's where the arguments, and the package variables that the reading takes, are together of bulk at most 1048576: NARROWER than '..Said'. Prove '..Said' where nothing that the law and all that it calls make is longer than what came in: it says more and counts as full. Else prove '..UptoSaid'. A law counts once. -/
mutual
def uptoBulk {H : Type} : DataW H → Nat
  | .lit (.string bytes) => bytes.length + 1
  | .lit _ => 1
  | .nil => 1
  | .ptr d => uptoBulk d + 1
  | .slice elems spare => uptoBulkAll elems + uptoBulkAll spare + 1
  | .agg parts => uptoBulkAll parts + 1
  | .iface _ d => uptoBulk d + 1
  | .map entries => uptoBulkEntries entries + 1
  | .held _ => 1
def uptoBulkAll {H : Type} : List (DataW H) → Nat
  | [] => 0
  | d :: r => uptoBulk d + uptoBulkAll r
def uptoBulkEntries {H : Type} : List (Lit × DataW H) → Nat
  | [] => 0
  | x :: r => uptoBulkEntry x + uptoBulkEntries r
def uptoBulkEntry {H : Type} : Lit × DataW H → Nat
  | (.string bytes, d) => bytes.length + uptoBulk d + 1
  | (_, d) => uptoBulk d + 1
 end
def uptoSmall : (H : Type) → List (DataW H) → Bool := fun _ ds => decide (uptoBulkAll ds ≤ 1048576)
def OpenSpec.upto (s : _root_.Go.ChangeSpec) : _root_.Go.OpenSpec := { _root_.Go.OpenSpec.ofChange s with cond := some uptoSmall }

/-- 'roebucklaw13.ResvPlay', WHERE WHAT IT READS IS OF BULK AT MOST 1048576: true; the input reads as it did. -/
def resvPlayUptoRow : OpenClaim := { program := "ytabackklpemhpaa", sum := "7d01234ccc44c5d06468ceffc94d3e126eeba4fd9ec08116a96b3638f8addb6e", func := "roebuck/roebucklaw13.ResvPlay", spec := "resvPlay", recurses := true, plainKeys := false, apart := false, narrowed := true }
def ResvPlayUptoSaid : Prop := resvPlayUptoRow.holds Try.pinned (OpenSpec.upto resvPlaySpec)

/-- 'roebucklaw13.ResvKills', WHERE WHAT IT READS IS OF BULK AT MOST 1048576: true; the input reads as it did. -/
def resvKillsUptoRow : OpenClaim := { program := "ytabackklpemhpaa", sum := "7d01234ccc44c5d06468ceffc94d3e126eeba4fd9ec08116a96b3638f8addb6e", func := "roebuck/roebucklaw13.ResvKills", spec := "resvKills", recurses := true, plainKeys := false, apart := false, narrowed := true }
def ResvKillsUptoSaid : Prop := resvKillsUptoRow.holds Try.pinned (OpenSpec.upto resvKillsSpec)

/-- 'roebucklaw14.ShardPairs', WHERE WHAT IT READS IS OF BULK AT MOST 1048576: true; the input reads as it did. -/
def shardPairsUptoRow : OpenClaim := { program := "ytabackklpemhpaa", sum := "7d01234ccc44c5d06468ceffc94d3e126eeba4fd9ec08116a96b3638f8addb6e", func := "roebuck/roebucklaw14.ShardPairs", spec := "shardPairs", plainKeys := false, apart := false, narrowed := true }
def ShardPairsUptoSaid : Prop := shardPairsUptoRow.holds Try.pinned (OpenSpec.upto shardPairsSpec)

end Rows
end Go.Proofs.Ytabackklpemhpaa
