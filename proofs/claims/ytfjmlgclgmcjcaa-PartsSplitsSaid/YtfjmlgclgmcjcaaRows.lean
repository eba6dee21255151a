/-
  No cell of these rows narrows 'for every input' (looked for: loops, veiled, ifaces, maps, wideKeys, modest, calm, conditions, laid).
  DERIVED. THE GIVEN ROWS OF THIS SEAT. 6 by the template 'for every input the law returns true; each argument reads behind the call as it read before'; 0 by the template 'total and deterministic' (their statements: YtfjmlgclgmcjcaaTotals.lean).
  GIVEN WITH THE SEED: the statements are not yours to turn. If you find one false, say at which input.
  Laid BY PROGRAM, IN A SANDBOX (cutbox-rows.mjs): the forced cells as the released guide's own fill.sh prints them over the translation e8112fd239fc9dd5… (all of the seat's roots in one cut). By AI agents, Wed Nov 11 2026. No macro, syntax, notation, axiom, sorry.
-/
import Derived.Test.YtfjmlgclgmcjcaaChecked
import GoSem.Claim
import GoSem.ClaimJoined
import GoSem.ClaimMapViews
import Derived.JoinedTies
import Derived.KernelRfl
namespace Go.Proofs.Ytfjmlgclgmcjcaa
/- THE CELL 'sum', in the pinned program and in every row, IS THE sha256 OF THE DUMP (.gsa) THAT YtfjmlgclgmcjcaaProg.lean LOADS. Nothing in Lean hashes anything: it is a label: what it is worth is what the hold of that sum in a sandbox is worth. -/
noncomputable def Try.pinned : Pinned := { name := "ytfjmlgclgmcjcaa", sum := "e8112fd239fc9dd59e735e8a92b00adfb2f1ed438459c4a7561f309f4d46ab16", checked := Try.checked }
namespace Rows
def none {H : Type} : Left H := { results := [], args := [] }

/-- 'spacecraftlaw11.PartsSplits': WHATEVER THE INPUT: true; the input reads as it did. -/
def partsSplitsSpec : ChangeSpec := { name := "partsSplits", fn := fun _ => fun
  | [d1, d2, d3] => { results := [.lit (.bool true)], args := [d1, d2, d3] }
  | _ => none }
def partsSplitsRow : OpenClaim := { program := "ytfjmlgclgmcjcaa", sum := "e8112fd239fc9dd59e735e8a92b00adfb2f1ed438459c4a7561f309f4d46ab16", func := "spacecraft/spacecraftlaw11.PartsSplits", spec := "partsSplits", unfollowed := true, recurses := true, apart := false }
def PartsSplitsSaid : Prop := partsSplitsRow.holds Try.pinned (OpenSpec.ofChange partsSplitsSpec)

/-- ITS FALSE NEIGHBOUR: 'it returns false'. Refute it at one input. -/
def partsSplitsWrong : ChangeSpec := { name := "partsSplits", fn := fun _ => fun
  | [d1, d2, d3] => { results := [.lit (.bool false)], args := [d1, d2, d3] }
  | _ => none }
def PartsSplitsWrongFalsely : Prop := partsSplitsRow.holds Try.pinned (OpenSpec.ofChange partsSplitsWrong)

/-- 'spacecraftlaw11.PartsPlays': WHATEVER THE INPUT: true; the input reads as it did. -/
def partsPlaysSpec : ChangeSpec := { name := "partsPlays", fn := fun _ => fun
  | [d1, d2, d3] => { results := [.lit (.bool true)], args := [d1, d2, d3] }
  | _ => none }
def partsPlaysRow : OpenClaim := { program := "ytfjmlgclgmcjcaa", sum := "e8112fd239fc9dd59e735e8a92b00adfb2f1ed438459c4a7561f309f4d46ab16", func := "spacecraft/spacecraftlaw11.PartsPlays", spec := "partsPlays", unfollowed := true, recurses := true, apart := false }
def PartsPlaysSaid : Prop := partsPlaysRow.holds Try.pinned (OpenSpec.ofChange partsPlaysSpec)

/-- ITS FALSE NEIGHBOUR: 'it returns false'. Refute it at one input. -/
def partsPlaysWrong : ChangeSpec := { name := "partsPlays", fn := fun _ => fun
  | [d1, d2, d3] => { results := [.lit (.bool false)], args := [d1, d2, d3] }
  | _ => none }
def PartsPlaysWrongFalsely : Prop := partsPlaysRow.holds Try.pinned (OpenSpec.ofChange partsPlaysWrong)

/-- 'spacecraftlaw11.PartsBack': WHATEVER THE INPUT: true; the input reads as it did. -/
def partsBackSpec : ChangeSpec := { name := "partsBack", fn := fun _ => fun
  | [d1, d2, d3, d4] => { results := [.lit (.bool true)], args := [d1, d2, d3, d4] }
  | _ => none }
def partsBackRow : OpenClaim := { program := "ytfjmlgclgmcjcaa", sum := "e8112fd239fc9dd59e735e8a92b00adfb2f1ed438459c4a7561f309f4d46ab16", func := "spacecraft/spacecraftlaw11.PartsBack", spec := "partsBack", unfollowed := true, recurses := true, apart := false }
def PartsBackSaid : Prop := partsBackRow.holds Try.pinned (OpenSpec.ofChange partsBackSpec)

/-- ITS FALSE NEIGHBOUR: 'it returns false'. Refute it at one input. -/
def partsBackWrong : ChangeSpec := { name := "partsBack", fn := fun _ => fun
  | [d1, d2, d3, d4] => { results := [.lit (.bool false)], args := [d1, d2, d3, d4] }
  | _ => none }
def PartsBackWrongFalsely : Prop := partsBackRow.holds Try.pinned (OpenSpec.ofChange partsBackWrong)

/-- 'spacecraftlaw11.PartsMisses': WHATEVER THE INPUT: true; the input reads as it did. -/
def partsMissesSpec : ChangeSpec := { name := "partsMisses", fn := fun _ => fun
  | [d1, d2, d3, d4] => { results := [.lit (.bool true)], args := [d1, d2, d3, d4] }
  | _ => none }
def partsMissesRow : OpenClaim := { program := "ytfjmlgclgmcjcaa", sum := "e8112fd239fc9dd59e735e8a92b00adfb2f1ed438459c4a7561f309f4d46ab16", func := "spacecraft/spacecraftlaw11.PartsMisses", spec := "partsMisses", unfollowed := true, recurses := true, apart := false }
def PartsMissesSaid : Prop := partsMissesRow.holds Try.pinned (OpenSpec.ofChange partsMissesSpec)

/-- ITS FALSE NEIGHBOUR: 'it returns false'. Refute it at one input. -/
def partsMissesWrong : ChangeSpec := { name := "partsMisses", fn := fun _ => fun
  | [d1, d2, d3, d4] => { results := [.lit (.bool false)], args := [d1, d2, d3, d4] }
  | _ => none }
def PartsMissesWrongFalsely : Prop := partsMissesRow.holds Try.pinned (OpenSpec.ofChange partsMissesWrong)

/-- 'spacecraftlaw11.PartsPieces': WHATEVER THE INPUT: true; the input reads as it did. -/
def partsPiecesSpec : ChangeSpec := { name := "partsPieces", fn := fun _ => fun
  | [d1, d2, d3] => { results := [.lit (.bool true)], args := [d1, d2, d3] }
  | _ => none }
def partsPiecesRow : OpenClaim := { program := "ytfjmlgclgmcjcaa", sum := "e8112fd239fc9dd59e735e8a92b00adfb2f1ed438459c4a7561f309f4d46ab16", func := "spacecraft/spacecraftlaw11.PartsPieces", spec := "partsPieces", unfollowed := true, recurses := true, apart := false }
def PartsPiecesSaid : Prop := partsPiecesRow.holds Try.pinned (OpenSpec.ofChange partsPiecesSpec)

/-- ITS FALSE NEIGHBOUR: 'it returns false'. Refute it at one input. -/
def partsPiecesWrong : ChangeSpec := { name := "partsPieces", fn := fun _ => fun
  | [d1, d2, d3] => { results := [.lit (.bool false)], args := [d1, d2, d3] }
  | _ => none }
def PartsPiecesWrongFalsely : Prop := partsPiecesRow.holds Try.pinned (OpenSpec.ofChange partsPiecesWrong)

/-- 'spacecraftlaw11.PartsNil': WHATEVER THE INPUT: true; the input reads as it did. -/
def partsNilSpec : ChangeSpec := { name := "partsNil", fn := fun _ => fun
  | [d] => { results := [.lit (.bool true)], args := [d] }
  | _ => none }
def partsNilRow : OpenClaim := { program := "ytfjmlgclgmcjcaa", sum := "e8112fd239fc9dd59e735e8a92b00adfb2f1ed438459c4a7561f309f4d46ab16", func := "spacecraft/spacecraftlaw11.PartsNil", spec := "partsNil", unfollowed := true, recurses := true, apart := false }
def PartsNilSaid : Prop := partsNilRow.holds Try.pinned (OpenSpec.ofChange partsNilSpec)

/-- ITS FALSE NEIGHBOUR: 'it returns false'. Refute it at one input. -/
def partsNilWrong : ChangeSpec := { name := "partsNil", fn := fun _ => fun
  | [d] => { results := [.lit (.bool false)], args := [d] }
  | _ => none }
def PartsNilWrongFalsely : Prop := partsNilRow.holds Try.pinned (OpenSpec.ofChange partsNilWrong)

/- THE SECOND FORM. 'bulk': how many values and letters a reading holds, each counted each time it is reached (what is shared counts as often as it is met; a slice's spare places count too). A statement '..UptoSaid' is the law's where the arguments, and the package variables that the reading takes, are together of bulk at most 1048576: NARROWER than '..Said'. Prove '..Said' where nothing that the law and all that it calls make is longer than what came in: it says more and counts as full. Else prove '..UptoSaid'. A law counts once. -/
mutual
def uptoBulk {H : Type} : DataW H → Nat
  | .lit (.string bytes) => bytes.length + 1
  | .lit _ => 1
  | .nil => 1
  | .ptr d => uptoBulk d + 1
  | .slice elems spare => uptoBulkAll elems + uptoBulkAll spare + 1
  | .agg parts => uptoBulkAll parts + 1
  | .iface _ d => uptoBulk d + 1
  | .map entries => uptoBulkEntries entries + 1
  | .held _ => 1
def uptoBulkAll {H : Type} : List (DataW H) → Nat
  | [] => 0
  | d :: r => uptoBulk d + uptoBulkAll r
def uptoBulkEntries {H : Type} : List (Lit × DataW H) → Nat
  | [] => 0
  | x :: r => uptoBulkEntry x + uptoBulkEntries r
def uptoBulkEntry {H : Type} : Lit × DataW H → Nat
  | (.string bytes, d) => bytes.length + uptoBulk d + 1
  | (_, d) => uptoBulk d + 1
 end
def uptoSmall : (H : Type) → List (DataW H) → Bool := fun _ ds => decide (uptoBulkAll ds ≤ 1048576)
def OpenSpec.upto (s : _root_.Go.ChangeSpec) : _root_.Go.OpenSpec := { _root_.Go.OpenSpec.ofChange s with cond := some uptoSmall }

/-- 'spacecraftlaw11.PartsSplits', WHERE WHAT IT READS IS OF BULK AT MOST 1048576: true; the input reads as it did. -/
def partsSplitsUptoRow : OpenClaim := { program := "ytfjmlgclgmcjcaa", sum := "e8112fd239fc9dd59e735e8a92b00adfb2f1ed438459c4a7561f309f4d46ab16", func := "spacecraft/spacecraftlaw11.PartsSplits", spec := "partsSplits", unfollowed := true, recurses := true, apart := false, narrowed := true }
def PartsSplitsUptoSaid : Prop := partsSplitsUptoRow.holds Try.pinned (OpenSpec.upto partsSplitsSpec)

/-- 'spacecraftlaw11.PartsPlays', WHERE WHAT IT READS IS OF BULK AT MOST 1048576: true; the input reads as it did. -/
def partsPlaysUptoRow : OpenClaim := { program := "ytfjmlgclgmcjcaa", sum := "e8112fd239fc9dd59e735e8a92b00adfb2f1ed438459c4a7561f309f4d46ab16", func := "spacecraft/spacecraftlaw11.PartsPlays", spec := "partsPlays", unfollowed := true, recurses := true, apart := false, narrowed := true }
def PartsPlaysUptoSaid : Prop := partsPlaysUptoRow.holds Try.pinned (OpenSpec.upto partsPlaysSpec)

/-- 'spacecraftlaw11.PartsBack', WHERE WHAT IT READS IS OF BULK AT MOST 1048576: true; the input reads as it did. -/
def partsBackUptoRow : OpenClaim := { program := "ytfjmlgclgmcjcaa", sum := "e8112fd239fc9dd59e735e8a92b00adfb2f1ed438459c4a7561f309f4d46ab16", func := "spacecraft/spacecraftlaw11.PartsBack", spec := "partsBack", unfollowed := true, recurses := true, apart := false, narrowed := true }
def PartsBackUptoSaid : Prop := partsBackUptoRow.holds Try.pinned (OpenSpec.upto partsBackSpec)

/-- 'spacecraftlaw11.PartsMisses', WHERE WHAT IT READS IS OF BULK AT MOST 1048576: true; the input reads as it did. -/
def partsMissesUptoRow : OpenClaim := { program := "ytfjmlgclgmcjcaa", sum := "e8112fd239fc9dd59e735e8a92b00adfb2f1ed438459c4a7561f309f4d46ab16", func := "spacecraft/spacecraftlaw11.PartsMisses", spec := "partsMisses", unfollowed := true, recurses := true, apart := false, narrowed := true }
def PartsMissesUptoSaid : Prop := partsMissesUptoRow.holds Try.pinned (OpenSpec.upto partsMissesSpec)

/-- 'spacecraftlaw11.PartsPieces', WHERE WHAT IT READS IS OF BULK AT MOST 1048576: true; the input reads as it did. -/
def partsPiecesUptoRow : OpenClaim := { program := "ytfjmlgclgmcjcaa", sum := "e8112fd239fc9dd59e735e8a92b00adfb2f1ed438459c4a7561f309f4d46ab16", func := "spacecraft/spacecraftlaw11.PartsPieces", spec := "partsPieces", unfollowed := true, recurses := true, apart := false, narrowed := true }
def PartsPiecesUptoSaid : Prop := partsPiecesUptoRow.holds Try.pinned (OpenSpec.upto partsPiecesSpec)

/-- 'spacecraftlaw11.PartsNil', WHERE WHAT IT READS IS OF BULK AT MOST 1048576: true; the input reads as it did. -/
def partsNilUptoRow : OpenClaim := { program := "ytfjmlgclgmcjcaa", sum := "e8112fd239fc9dd59e735e8a92b00adfb2f1ed438459c4a7561f309f4d46ab16", func := "spacecraft/spacecraftlaw11.PartsNil", spec := "partsNil", unfollowed := true, recurses := true, apart := false, narrowed := true }
def PartsNilUptoSaid : Prop := partsNilUptoRow.holds Try.pinned (OpenSpec.upto partsNilSpec)

end Rows
end Go.Proofs.Ytfjmlgclgmcjcaa
