/-
  No cell of these rows narrows 'for every input' (looked for: loops, veiled, ifaces, maps, wideKeys, modest, calm, conditions, laid).
  DERIVED. THE GIVEN ROWS OF THIS SEAT. 4 by the template 'for every input the law returns true; each argument reads behind the call as it read before'; 0 by the template 'total and deterministic' (their statements: YtehceapephgbpaaTotals.lean).
  GIVEN WITH THE SEED: the statements are not yours to turn. If you find one false, say at which input.
  Laid BY PROGRAM, IN A SANDBOX (cutbox-rows.mjs): the forced cells as the released guide's own fill.sh prints them over the translation aadf6c99a3ac1893… (all of the seat's roots in one cut). By AI agents, Wed Nov 11 2026. No macro, syntax, notation, axiom, sorry.
-/
import Derived.Test.YtehceapephgbpaaChecked
import GoSem.Claim
import GoSem.ClaimJoined
import GoSem.ClaimMapViews
import Derived.JoinedTies
import Derived.KernelRfl
namespace Go.Proofs.Ytehceapephgbpaa
/- THE CELL 'sum', in the pinned program and in every row, IS THE sha256 OF THE DUMP (.gsa) THAT YtehceapephgbpaaProg.lean LOADS. Nothing in Lean hashes anything: it is a label: what it is worth is what the hold of that sum in a sandbox is worth. -/
noncomputable def Try.pinned : Pinned := { name := "ytehceapephgbpaa", sum := "aadf6c99a3ac1893e554a7a079d08d14c7baf92c9cb2a5ccfddad49ffb47062b", checked := Try.checked }
namespace Rows
def none {H : Type} : Left H := { results := [], args := [] }

/-- 'spacecraftlaw25.FilesumSums': WHATEVER THE INPUT: true; the input reads as it did. -/
def filesumSumsSpec : ChangeSpec := { name := "filesumSums", fn := fun _ => fun
  | [d] => { results := [.lit (.bool true)], args := [d] }
  | _ => none }
def filesumSumsRow : OpenClaim := { program := "ytehceapephgbpaa", sum := "aadf6c99a3ac1893e554a7a079d08d14c7baf92c9cb2a5ccfddad49ffb47062b", func := "spacecraft/spacecraftlaw25.FilesumSums", spec := "filesumSums", apart := false }
def FilesumSumsSaid : Prop := filesumSumsRow.holds Try.pinned (OpenSpec.ofChange filesumSumsSpec)

/-- ITS FALSE NEIGHBOUR: 'it returns false'. Refute it at one input. -/
def filesumSumsWrong : ChangeSpec := { name := "filesumSums", fn := fun _ => fun
  | [d] => { results := [.lit (.bool false)], args := [d] }
  | _ => none }
def FilesumSumsWrongFalsely : Prop := filesumSumsRow.holds Try.pinned (OpenSpec.ofChange filesumSumsWrong)

/-- 'spacecraftlaw25.FilesumParts': WHATEVER THE INPUT: true; the input reads as it did. -/
def filesumPartsSpec : ChangeSpec := { name := "filesumParts", fn := fun _ => fun
  | [d1, d2] => { results := [.lit (.bool true)], args := [d1, d2] }
  | _ => none }
def filesumPartsRow : OpenClaim := { program := "ytehceapephgbpaa", sum := "aadf6c99a3ac1893e554a7a079d08d14c7baf92c9cb2a5ccfddad49ffb47062b", func := "spacecraft/spacecraftlaw25.FilesumParts", spec := "filesumParts", apart := false }
def FilesumPartsSaid : Prop := filesumPartsRow.holds Try.pinned (OpenSpec.ofChange filesumPartsSpec)

/-- ITS FALSE NEIGHBOUR: 'it returns false'. Refute it at one input. -/
def filesumPartsWrong : ChangeSpec := { name := "filesumParts", fn := fun _ => fun
  | [d1, d2] => { results := [.lit (.bool false)], args := [d1, d2] }
  | _ => none }
def FilesumPartsWrongFalsely : Prop := filesumPartsRow.holds Try.pinned (OpenSpec.ofChange filesumPartsWrong)

/-- 'spacecraftlaw25.FilesumPieces': WHATEVER THE INPUT: true; the input reads as it did. -/
def filesumPiecesSpec : ChangeSpec := { name := "filesumPieces", fn := fun _ => fun
  | [d1, d2, d3] => { results := [.lit (.bool true)], args := [d1, d2, d3] }
  | _ => none }
def filesumPiecesRow : OpenClaim := { program := "ytehceapephgbpaa", sum := "aadf6c99a3ac1893e554a7a079d08d14c7baf92c9cb2a5ccfddad49ffb47062b", func := "spacecraft/spacecraftlaw25.FilesumPieces", spec := "filesumPieces", apart := false }
def FilesumPiecesSaid : Prop := filesumPiecesRow.holds Try.pinned (OpenSpec.ofChange filesumPiecesSpec)

/-- ITS FALSE NEIGHBOUR: 'it returns false'. Refute it at one input. -/
def filesumPiecesWrong : ChangeSpec := { name := "filesumPieces", fn := fun _ => fun
  | [d1, d2, d3] => { results := [.lit (.bool false)], args := [d1, d2, d3] }
  | _ => none }
def FilesumPiecesWrongFalsely : Prop := filesumPiecesRow.holds Try.pinned (OpenSpec.ofChange filesumPiecesWrong)

/-- 'spacecraftlaw25.FilesumPads': WHATEVER THE INPUT: true; the input reads as it did. -/
def filesumPadsSpec : ChangeSpec := { name := "filesumPads", fn := fun _ => fun
  | [d1, d2, d3] => { results := [.lit (.bool true)], args := [d1, d2, d3] }
  | _ => none }
def filesumPadsRow : OpenClaim := { program := "ytehceapephgbpaa", sum := "aadf6c99a3ac1893e554a7a079d08d14c7baf92c9cb2a5ccfddad49ffb47062b", func := "spacecraft/spacecraftlaw25.FilesumPads", spec := "filesumPads", apart := false }
def FilesumPadsSaid : Prop := filesumPadsRow.holds Try.pinned (OpenSpec.ofChange filesumPadsSpec)

/-- ITS FALSE NEIGHBOUR: 'it returns false'. Refute it at one input. -/
def filesumPadsWrong : ChangeSpec := { name := "filesumPads", fn := fun _ => fun
  | [d1, d2, d3] => { results := [.lit (.bool false)], args := [d1, d2, d3] }
  | _ => none }
def FilesumPadsWrongFalsely : Prop := filesumPadsRow.holds Try.pinned (OpenSpec.ofChange filesumPadsWrong)

/- THE SECOND FORM. 'bulk': how many values and letters a reading holds, each counted each time it is reached (what is shared counts as often as it is met; a slice's spare places count too). A statement '..UptoSaid' is the law's where the arguments, and the package variables that the reading takes, are together of bulk at most 1048576: NARROWER than '..Said'. Prove '..Said' where nothing that the law and all that it calls make is longer than what came in: it says more and counts as full. Else prove '..UptoSaid'. A law counts once. -/
mutual
def uptoBulk {H : Type} : DataW H → Nat
  | .lit (.string bytes) => bytes.length + 1
  | .lit _ => 1
  | .nil => 1
  | .ptr d => uptoBulk d + 1
  | .slice elems spare => uptoBulkAll elems + uptoBulkAll spare + 1
  | .agg parts => uptoBulkAll parts + 1
  | .iface _ d => uptoBulk d + 1
  | .map entries => uptoBulkEntries entries + 1
  | .held _ => 1
def uptoBulkAll {H : Type} : List (DataW H) → Nat
  | [] => 0
  | d :: r => uptoBulk d + uptoBulkAll r
def uptoBulkEntries {H : Type} : List (Lit × DataW H) → Nat
  | [] => 0
  | x :: r => uptoBulkEntry x + uptoBulkEntries r
def uptoBulkEntry {H : Type} : Lit × DataW H → Nat
  | (.string bytes, d) => bytes.length + uptoBulk d + 1
  | (_, d) => uptoBulk d + 1
 end
def uptoSmall : (H : Type) → List (DataW H) → Bool := fun _ ds => decide (uptoBulkAll ds ≤ 1048576)
def OpenSpec.upto (s : _root_.Go.ChangeSpec) : _root_.Go.OpenSpec := { _root_.Go.OpenSpec.ofChange s with cond := some uptoSmall }

/-- 'spacecraftlaw25.FilesumSums', WHERE WHAT IT READS IS OF BULK AT MOST 1048576: true; the input reads as it did. -/
def filesumSumsUptoRow : OpenClaim := { program := "ytehceapephgbpaa", sum := "aadf6c99a3ac1893e554a7a079d08d14c7baf92c9cb2a5ccfddad49ffb47062b", func := "spacecraft/spacecraftlaw25.FilesumSums", spec := "filesumSums", apart := false, narrowed := true }
def FilesumSumsUptoSaid : Prop := filesumSumsUptoRow.holds Try.pinned (OpenSpec.upto filesumSumsSpec)

/-- 'spacecraftlaw25.FilesumParts', WHERE WHAT IT READS IS OF BULK AT MOST 1048576: true; the input reads as it did. -/
def filesumPartsUptoRow : OpenClaim := { program := "ytehceapephgbpaa", sum := "aadf6c99a3ac1893e554a7a079d08d14c7baf92c9cb2a5ccfddad49ffb47062b", func := "spacecraft/spacecraftlaw25.FilesumParts", spec := "filesumParts", apart := false, narrowed := true }
def FilesumPartsUptoSaid : Prop := filesumPartsUptoRow.holds Try.pinned (OpenSpec.upto filesumPartsSpec)

/-- 'spacecraftlaw25.FilesumPieces', WHERE WHAT IT READS IS OF BULK AT MOST 1048576: true; the input reads as it did. -/
def filesumPiecesUptoRow : OpenClaim := { program := "ytehceapephgbpaa", sum := "aadf6c99a3ac1893e554a7a079d08d14c7baf92c9cb2a5ccfddad49ffb47062b", func := "spacecraft/spacecraftlaw25.FilesumPieces", spec := "filesumPieces", apart := false, narrowed := true }
def FilesumPiecesUptoSaid : Prop := filesumPiecesUptoRow.holds Try.pinned (OpenSpec.upto filesumPiecesSpec)

/-- 'spacecraftlaw25.FilesumPads', WHERE WHAT IT READS IS OF BULK AT MOST 1048576: true; the input reads as it did. -/
def filesumPadsUptoRow : OpenClaim := { program := "ytehceapephgbpaa", sum := "aadf6c99a3ac1893e554a7a079d08d14c7baf92c9cb2a5ccfddad49ffb47062b", func := "spacecraft/spacecraftlaw25.FilesumPads", spec := "filesumPads", apart := false, narrowed := true }
def FilesumPadsUptoSaid : Prop := filesumPadsUptoRow.holds Try.pinned (OpenSpec.upto filesumPadsSpec)

end Rows
end Go.Proofs.Ytehceapephgbpaa
