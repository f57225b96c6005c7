/-
  No cell of these rows narrows 'for every input' (looked for: loops, veiled, ifaces, maps, wideKeys, modest, calm, conditions, laid).
  DERIVED. THE GIVEN ROWS OF THIS SEAT. 3 by the template 'for every input the law returns true; each argument reads behind the call as it read before'; 0 by the template 'total and deterministic' (their statements: YtafcgknpehphlaaTotals.lean).
  GIVEN WITH THE SEED: the statements are not yours to turn. If you find one false, say at which input.
  Laid BY PROGRAM, IN A SANDBOX (cutbox-rows.mjs): the forced cells as the released guide's own fill.sh prints them over the translation 35a599de5275d50a… (all of the seat's roots in one cut). By AI agents, Wed Nov 11 2026. No macro, syntax, notation, axiom, sorry.
-/
import Derived.Test.YtafcgknpehphlaaChecked
import GoSem.Claim
import GoSem.ClaimJoined
import GoSem.ClaimMapViews
import Derived.JoinedTies
import Derived.KernelRfl
namespace Go.Proofs.Ytafcgknpehphlaa
/- THE CELL 'sum', in the pinned program and in every row, IS THE sha256 OF THE DUMP (.gsa) THAT YtafcgknpehphlaaProg.lean LOADS. Nothing in Lean hashes anything: it is a label: what it is worth is what the hold of that sum in a sandbox is worth. -/
noncomputable def Try.pinned : Pinned := { name := "ytafcgknpehphlaa", sum := "35a599de5275d50a3b18fe5958b4c643a2cb9450fbb3598a0732821941c9305c", checked := Try.checked }
namespace Rows
def none {H : Type} : Left H := { results := [], args := [] }

/-- 'gossamerlaw11.LotIs': WHATEVER THE INPUT: true; the input reads as it did. -/
def lotIsSpec : ChangeSpec := { name := "lotIs", fn := fun _ => fun
  | [d1, d2, d3] => { results := [.lit (.bool true)], args := [d1, d2, d3] }
  | _ => none }
def lotIsRow : OpenClaim := { program := "ytafcgknpehphlaa", sum := "35a599de5275d50a3b18fe5958b4c643a2cb9450fbb3598a0732821941c9305c", func := "gossamer/gossamerlaw11.LotIs", spec := "lotIs", unfollowed := true, recurses := true, apart := false }
def LotIsSaid : Prop := lotIsRow.holds Try.pinned (OpenSpec.ofChange lotIsSpec)

/-- ITS FALSE NEIGHBOUR: 'it returns false'. Refute it at one input. -/
def lotIsWrong : ChangeSpec := { name := "lotIs", fn := fun _ => fun
  | [d1, d2, d3] => { results := [.lit (.bool false)], args := [d1, d2, d3] }
  | _ => none }
def LotIsWrongFalsely : Prop := lotIsRow.holds Try.pinned (OpenSpec.ofChange lotIsWrong)

/-- 'gossamerlaw11.LotBack': WHATEVER THE INPUT: true; the input reads as it did. -/
def lotBackSpec : ChangeSpec := { name := "lotBack", fn := fun _ => fun
  | [d1, d2, d3] => { results := [.lit (.bool true)], args := [d1, d2, d3] }
  | _ => none }
def lotBackRow : OpenClaim := { program := "ytafcgknpehphlaa", sum := "35a599de5275d50a3b18fe5958b4c643a2cb9450fbb3598a0732821941c9305c", func := "gossamer/gossamerlaw11.LotBack", spec := "lotBack", unfollowed := true, recurses := true, apart := false }
def LotBackSaid : Prop := lotBackRow.holds Try.pinned (OpenSpec.ofChange lotBackSpec)

/-- ITS FALSE NEIGHBOUR: 'it returns false'. Refute it at one input. -/
def lotBackWrong : ChangeSpec := { name := "lotBack", fn := fun _ => fun
  | [d1, d2, d3] => { results := [.lit (.bool false)], args := [d1, d2, d3] }
  | _ => none }
def LotBackWrongFalsely : Prop := lotBackRow.holds Try.pinned (OpenSpec.ofChange lotBackWrong)

/-- 'gossamerlaw11.LotWhole': WHATEVER THE INPUT: true; the input reads as it did. -/
def lotWholeSpec : ChangeSpec := { name := "lotWhole", fn := fun _ => fun
  | [d1, d2] => { results := [.lit (.bool true)], args := [d1, d2] }
  | _ => none }
def lotWholeRow : OpenClaim := { program := "ytafcgknpehphlaa", sum := "35a599de5275d50a3b18fe5958b4c643a2cb9450fbb3598a0732821941c9305c", func := "gossamer/gossamerlaw11.LotWhole", spec := "lotWhole", unfollowed := true, recurses := true, apart := false }
def LotWholeSaid : Prop := lotWholeRow.holds Try.pinned (OpenSpec.ofChange lotWholeSpec)

/-- ITS FALSE NEIGHBOUR: 'it returns false'. Refute it at one input. -/
def lotWholeWrong : ChangeSpec := { name := "lotWhole", fn := fun _ => fun
  | [d1, d2] => { results := [.lit (.bool false)], args := [d1, d2] }
  | _ => none }
def LotWholeWrongFalsely : Prop := lotWholeRow.holds Try.pinned (OpenSpec.ofChange lotWholeWrong)

/- THE SECOND FORM. 'bulk': how many values and letters a reading holds, each counted each time it is reached (what is shared counts as often as it is met; a slice's spare places count too). A statement '..UptoSaid' is the law's where the arguments, and the package variables that the reading takes, are together of bulk at most 1048576: NARROWER than '..Said'. Prove '..Said' where nothing that the law and all that it calls make is longer than what came in: it says more and counts as full. Else prove '..UptoSaid'. A law counts once. -/
mutual
def uptoBulk {H : Type} : DataW H → Nat
  | .lit (.string bytes) => bytes.length + 1
  | .lit _ => 1
  | .nil => 1
  | .ptr d => uptoBulk d + 1
  | .slice elems spare => uptoBulkAll elems + uptoBulkAll spare + 1
  | .agg parts => uptoBulkAll parts + 1
  | .iface _ d => uptoBulk d + 1
  | .map entries => uptoBulkEntries entries + 1
  | .held _ => 1
def uptoBulkAll {H : Type} : List (DataW H) → Nat
  | [] => 0
  | d :: r => uptoBulk d + uptoBulkAll r
def uptoBulkEntries {H : Type} : List (Lit × DataW H) → Nat
  | [] => 0
  | x :: r => uptoBulkEntry x + uptoBulkEntries r
def uptoBulkEntry {H : Type} : Lit × DataW H → Nat
  | (.string bytes, d) => bytes.length + uptoBulk d + 1
  | (_, d) => uptoBulk d + 1
 end
def uptoSmall : (H : Type) → List (DataW H) → Bool := fun _ ds => decide (uptoBulkAll ds ≤ 1048576)
def OpenSpec.upto (s : _root_.Go.ChangeSpec) : _root_.Go.OpenSpec := { _root_.Go.OpenSpec.ofChange s with cond := some uptoSmall }

/-- 'gossamerlaw11.LotIs', WHERE WHAT IT READS IS OF BULK AT MOST 1048576: true; the input reads as it did. -/
def lotIsUptoRow : OpenClaim := { program := "ytafcgknpehphlaa", sum := "35a599de5275d50a3b18fe5958b4c643a2cb9450fbb3598a0732821941c9305c", func := "gossamer/gossamerlaw11.LotIs", spec := "lotIs", unfollowed := true, recurses := true, apart := false, narrowed := true }
def LotIsUptoSaid : Prop := lotIsUptoRow.holds Try.pinned (OpenSpec.upto lotIsSpec)

/-- 'gossamerlaw11.LotBack', WHERE WHAT IT READS IS OF BULK AT MOST 1048576: true; the input reads as it did. -/
def lotBackUptoRow : OpenClaim := { program := "ytafcgknpehphlaa", sum := "35a599de5275d50a3b18fe5958b4c643a2cb9450fbb3598a0732821941c9305c", func := "gossamer/gossamerlaw11.LotBack", spec := "lotBack", unfollowed := true, recurses := true, apart := false, narrowed := true }
def LotBackUptoSaid : Prop := lotBackUptoRow.holds Try.pinned (OpenSpec.upto lotBackSpec)

/-- 'gossamerlaw11.LotWhole', WHERE WHAT IT READS IS OF BULK AT MOST 1048576: true; the input reads as it did. -/
def lotWholeUptoRow : OpenClaim := { program := "ytafcgknpehphlaa", sum := "35a599de5275d50a3b18fe5958b4c643a2cb9450fbb3598a0732821941c9305c", func := "gossamer/gossamerlaw11.LotWhole", spec := "lotWhole", unfollowed := true, recurses := true, apart := false, narrowed := true }
def LotWholeUptoSaid : Prop := lotWholeUptoRow.holds Try.pinned (OpenSpec.upto lotWholeSpec)

end Rows
end Go.Proofs.Ytafcgknpehphlaa
