/-
  No cell of these rows narrows 'for every input' (looked for: loops, veiled, ifaces, maps, wideKeys, modest, calm, conditions, laid).
  DERIVED. THE GIVEN ROWS OF THIS SEAT. 3 by the template 'for every input the law returns true; each argument reads behind the call as it read before'; 0 by the template 'total and deterministic' (their statements: YthcofcpnhopnnaaTotals.lean).
  GIVEN WITH THE SEED: the statements are not yours to turn. If you find one false, say at which input.
  Laid BY PROGRAM, IN A SANDBOX (cutbox-rows.mjs): the forced cells as the released guide's own fill.sh prints them over the translation 30f93a7708e11ce7… (all of the seat's roots in one cut). By AI agents, Wed Nov 11 2026. No macro, syntax, notation, axiom, sorry.
-/
import Derived.Test.YthcofcpnhopnnaaChecked
import GoSem.Claim
import GoSem.ClaimJoined
import GoSem.ClaimMapViews
import Derived.JoinedTies
import Derived.KernelRfl
namespace Go.Proofs.Ythcofcpnhopnnaa
/- THE CELL 'sum', in the pinned program and in every row, IS THE sha256 OF THE DUMP (.gsa) THAT YthcofcpnhopnnaaProg.lean LOADS. Nothing in Lean hashes anything: it is a label: what it is worth is what the hold of that sum in a sandbox is worth. -/
noncomputable def Try.pinned : Pinned := { name := "ythcofcpnhopnnaa", sum := "30f93a7708e11ce73e0db843b14c0973a56d70370c700d9a535c40d990a28590", checked := Try.checked }
namespace Rows
def none {H : Type} : Left H := { results := [], args := [] }

/-- 'gossamerlaw12.AvlPlays': WHATEVER THE INPUT: true; the input reads as it did. -/
def avlPlaysSpec : ChangeSpec := { name := "avlPlays", fn := fun _ => fun
  | [d] => { results := [.lit (.bool true)], args := [d] }
  | _ => none }
def avlPlaysRow : OpenClaim := { program := "ythcofcpnhopnnaa", sum := "30f93a7708e11ce73e0db843b14c0973a56d70370c700d9a535c40d990a28590", func := "gossamer/gossamerlaw12.AvlPlays", spec := "avlPlays", unfollowed := true, recurses := true, apart := false }
def AvlPlaysSaid : Prop := avlPlaysRow.holds Try.pinned (OpenSpec.ofChange avlPlaysSpec)

/-- ITS FALSE NEIGHBOUR: 'it returns false'. Refute it at one input. -/
def avlPlaysWrong : ChangeSpec := { name := "avlPlays", fn := fun _ => fun
  | [d] => { results := [.lit (.bool false)], args := [d] }
  | _ => none }
def AvlPlaysWrongFalsely : Prop := avlPlaysRow.holds Try.pinned (OpenSpec.ofChange avlPlaysWrong)

/-- 'gossamerlaw12.AvlFrom': WHATEVER THE INPUT: true; the input reads as it did. -/
def avlFromSpec : ChangeSpec := { name := "avlFrom", fn := fun _ => fun
  | [d1, d2, d3] => { results := [.lit (.bool true)], args := [d1, d2, d3] }
  | _ => none }
def avlFromRow : OpenClaim := { program := "ythcofcpnhopnnaa", sum := "30f93a7708e11ce73e0db843b14c0973a56d70370c700d9a535c40d990a28590", func := "gossamer/gossamerlaw12.AvlFrom", spec := "avlFrom", unfollowed := true, recurses := true, apart := false }
def AvlFromSaid : Prop := avlFromRow.holds Try.pinned (OpenSpec.ofChange avlFromSpec)

/-- ITS FALSE NEIGHBOUR: 'it returns false'. Refute it at one input. -/
def avlFromWrong : ChangeSpec := { name := "avlFrom", fn := fun _ => fun
  | [d1, d2, d3] => { results := [.lit (.bool false)], args := [d1, d2, d3] }
  | _ => none }
def AvlFromWrongFalsely : Prop := avlFromRow.holds Try.pinned (OpenSpec.ofChange avlFromWrong)

/-- 'gossamerlaw12.AvlAll': WHATEVER THE INPUT: true; the input reads as it did. -/
def avlAllSpec : ChangeSpec := { name := "avlAll", fn := fun _ => fun
  | [d] => { results := [.lit (.bool true)], args := [d] }
  | _ => none }
def avlAllRow : OpenClaim := { program := "ythcofcpnhopnnaa", sum := "30f93a7708e11ce73e0db843b14c0973a56d70370c700d9a535c40d990a28590", func := "gossamer/gossamerlaw12.AvlAll", spec := "avlAll", unfollowed := true, recurses := true, apart := false }
def AvlAllSaid : Prop := avlAllRow.holds Try.pinned (OpenSpec.ofChange avlAllSpec)

/-- ITS FALSE NEIGHBOUR: 'it returns false'. Refute it at one input. -/
def avlAllWrong : ChangeSpec := { name := "avlAll", fn := fun _ => fun
  | [d] => { results := [.lit (.bool false)], args := [d] }
  | _ => none }
def AvlAllWrongFalsely : Prop := avlAllRow.holds Try.pinned (OpenSpec.ofChange avlAllWrong)

/- THE SECOND FORM. 'bulk': how many values and letters a reading holds, each counted each time it is reached (what is shared counts as often as it is met; a slice's spare places count too). A statement '..UptoSaid' is the law's where the arguments, and the package variables that the reading takes, are together of bulk at most 1048576: NARROWER than '..Said'. Prove '..Said' where nothing that the law and all that it calls make is longer than what came in: it says more and counts as full. Else prove '..UptoSaid'. A law counts once. -/
mutual
def uptoBulk {H : Type} : DataW H → Nat
  | .lit (.string bytes) => bytes.length + 1
  | .lit _ => 1
  | .nil => 1
  | .ptr d => uptoBulk d + 1
  | .slice elems spare => uptoBulkAll elems + uptoBulkAll spare + 1
  | .agg parts => uptoBulkAll parts + 1
  | .iface _ d => uptoBulk d + 1
  | .map entries => uptoBulkEntries entries + 1
  | .held _ => 1
def uptoBulkAll {H : Type} : List (DataW H) → Nat
  | [] => 0
  | d :: r => uptoBulk d + uptoBulkAll r
def uptoBulkEntries {H : Type} : List (Lit × DataW H) → Nat
  | [] => 0
  | x :: r => uptoBulkEntry x + uptoBulkEntries r
def uptoBulkEntry {H : Type} : Lit × DataW H → Nat
  | (.string bytes, d) => bytes.length + uptoBulk d + 1
  | (_, d) => uptoBulk d + 1
 end
def uptoSmall : (H : Type) → List (DataW H) → Bool := fun _ ds => decide (uptoBulkAll ds ≤ 1048576)
def OpenSpec.upto (s : _root_.Go.ChangeSpec) : _root_.Go.OpenSpec := { _root_.Go.OpenSpec.ofChange s with cond := some uptoSmall }

/-- 'gossamerlaw12.AvlPlays', WHERE WHAT IT READS IS OF BULK AT MOST 1048576: true; the input reads as it did. -/
def avlPlaysUptoRow : OpenClaim := { program := "ythcofcpnhopnnaa", sum := "30f93a7708e11ce73e0db843b14c0973a56d70370c700d9a535c40d990a28590", func := "gossamer/gossamerlaw12.AvlPlays", spec := "avlPlays", unfollowed := true, recurses := true, apart := false, narrowed := true }
def AvlPlaysUptoSaid : Prop := avlPlaysUptoRow.holds Try.pinned (OpenSpec.upto avlPlaysSpec)

/-- 'gossamerlaw12.AvlFrom', WHERE WHAT IT READS IS OF BULK AT MOST 1048576: true; the input reads as it did. -/
def avlFromUptoRow : OpenClaim := { program := "ythcofcpnhopnnaa", sum := "30f93a7708e11ce73e0db843b14c0973a56d70370c700d9a535c40d990a28590", func := "gossamer/gossamerlaw12.AvlFrom", spec := "avlFrom", unfollowed := true, recurses := true, apart := false, narrowed := true }
def AvlFromUptoSaid : Prop := avlFromUptoRow.holds Try.pinned (OpenSpec.upto avlFromSpec)

/-- 'gossamerlaw12.AvlAll', WHERE WHAT IT READS IS OF BULK AT MOST 1048576: true; the input reads as it did. -/
def avlAllUptoRow : OpenClaim := { program := "ythcofcpnhopnnaa", sum := "30f93a7708e11ce73e0db843b14c0973a56d70370c700d9a535c40d990a28590", func := "gossamer/gossamerlaw12.AvlAll", spec := "avlAll", unfollowed := true, recurses := true, apart := false, narrowed := true }
def AvlAllUptoSaid : Prop := avlAllUptoRow.holds Try.pinned (OpenSpec.upto avlAllSpec)

end Rows
end Go.Proofs.Ythcofcpnhopnnaa
