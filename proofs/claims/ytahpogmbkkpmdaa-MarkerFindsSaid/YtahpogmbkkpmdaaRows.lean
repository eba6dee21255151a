/-
  No cell of these rows narrows 'for every input' (looked for: loops, veiled, ifaces, maps, wideKeys, modest, calm, conditions, laid).
  DERIVED. THE GIVEN ROWS OF THIS SEAT. 3 by the template 'for every input the law returns true; each argument reads behind the call as it read before'; 0 by the template 'total and deterministic' (their statements: YtahpogmbkkpmdaaTotals.lean).
  GIVEN WITH THE SEED: the statements are not yours to turn. If you find one false, say at which input.
  Laid BY PROGRAM, IN A SANDBOX (cutbox-rows.mjs): the forced cells as the released guide's own fill.sh prints them over the translation 4050bb56dfec5f26… (all of the seat's roots in one cut). By AI agents, Wed Nov 11 2026. No macro, syntax, notation, axiom, sorry.
-/
import Derived.Test.YtahpogmbkkpmdaaChecked
import GoSem.Claim
import GoSem.ClaimJoined
import GoSem.ClaimMapViews
import Derived.JoinedTies
import Derived.KernelRfl
namespace Go.Proofs.Ytahpogmbkkpmdaa
/- THE CELL 'sum', in the pinned program and in every row, IS THE sha256 OF THE DUMP (.gsa) THAT YtahpogmbkkpmdaaProg.lean LOADS. Nothing in Lean hashes anything: it is a label: what it is worth is what the hold of that sum in a sandbox is worth. -/
noncomputable def Try.pinned : Pinned := { name := "ytahpogmbkkpmdaa", sum := "4050bb56dfec5f26ab86ecb5313e89ef2f83b85ddad0c2bd9cbf7075a3d34c9b", checked := Try.checked }
namespace Rows
def none {H : Type} : Left H := { results := [], args := [] }

/-- 'spacecraftlaw13.MarkerWraps': WHATEVER THE INPUT: true; the input reads as it did. -/
def markerWrapsSpec : ChangeSpec := { name := "markerWraps", fn := fun _ => fun
  | [d] => { results := [.lit (.bool true)], args := [d] }
  | _ => none }
def markerWrapsRow : OpenClaim := { program := "ytahpogmbkkpmdaa", sum := "4050bb56dfec5f26ab86ecb5313e89ef2f83b85ddad0c2bd9cbf7075a3d34c9b", func := "spacecraft/spacecraftlaw13.MarkerWraps", spec := "markerWraps", unfollowed := true, recurses := true, apart := false }
def MarkerWrapsSaid : Prop := markerWrapsRow.holds Try.pinned (OpenSpec.ofChange markerWrapsSpec)

/-- ITS FALSE NEIGHBOUR: 'it returns false'. Refute it at one input. -/
def markerWrapsWrong : ChangeSpec := { name := "markerWraps", fn := fun _ => fun
  | [d] => { results := [.lit (.bool false)], args := [d] }
  | _ => none }
def MarkerWrapsWrongFalsely : Prop := markerWrapsRow.holds Try.pinned (OpenSpec.ofChange markerWrapsWrong)

/-- 'spacecraftlaw13.MarkerFeeds': WHATEVER THE INPUT: true; the input reads as it did. -/
def markerFeedsSpec : ChangeSpec := { name := "markerFeeds", fn := fun _ => fun
  | [d1, d2] => { results := [.lit (.bool true)], args := [d1, d2] }
  | _ => none }
def markerFeedsRow : OpenClaim := { program := "ytahpogmbkkpmdaa", sum := "4050bb56dfec5f26ab86ecb5313e89ef2f83b85ddad0c2bd9cbf7075a3d34c9b", func := "spacecraft/spacecraftlaw13.MarkerFeeds", spec := "markerFeeds", unfollowed := true, recurses := true, apart := false }
def MarkerFeedsSaid : Prop := markerFeedsRow.holds Try.pinned (OpenSpec.ofChange markerFeedsSpec)

/-- ITS FALSE NEIGHBOUR: 'it returns false'. Refute it at one input. -/
def markerFeedsWrong : ChangeSpec := { name := "markerFeeds", fn := fun _ => fun
  | [d1, d2] => { results := [.lit (.bool false)], args := [d1, d2] }
  | _ => none }
def MarkerFeedsWrongFalsely : Prop := markerFeedsRow.holds Try.pinned (OpenSpec.ofChange markerFeedsWrong)

/-- 'spacecraftlaw13.MarkerFinds': WHATEVER THE INPUT: true; the input reads as it did. -/
def markerFindsSpec : ChangeSpec := { name := "markerFinds", fn := fun _ => fun
  | [d1, d2, d3] => { results := [.lit (.bool true)], args := [d1, d2, d3] }
  | _ => none }
def markerFindsRow : OpenClaim := { program := "ytahpogmbkkpmdaa", sum := "4050bb56dfec5f26ab86ecb5313e89ef2f83b85ddad0c2bd9cbf7075a3d34c9b", func := "spacecraft/spacecraftlaw13.MarkerFinds", spec := "markerFinds", unfollowed := true, recurses := true, apart := false }
def MarkerFindsSaid : Prop := markerFindsRow.holds Try.pinned (OpenSpec.ofChange markerFindsSpec)

/-- ITS FALSE NEIGHBOUR: 'it returns false'. Refute it at one input. -/
def markerFindsWrong : ChangeSpec := { name := "markerFinds", fn := fun _ => fun
  | [d1, d2, d3] => { results := [.lit (.bool false)], args := [d1, d2, d3] }
  | _ => none }
def MarkerFindsWrongFalsely : Prop := markerFindsRow.holds Try.pinned (OpenSpec.ofChange markerFindsWrong)

/- THE SECOND FORM. 'bulk': how many values and letters a reading holds, each counted each time it is reached (what is shared counts as often as it is met; a slice's spare places count too). A statement '..UptoSaid' is the law's where the arguments, and the package variables that the reading takes, are together of bulk at most 1048576: NARROWER than '..Said'. Prove '..Said' where nothing that the law and all that it calls make is longer than what came in: it says more and counts as full. Else prove '..UptoSaid'. A law counts once. -/
mutual
def uptoBulk {H : Type} : DataW H → Nat
  | .lit (.string bytes) => bytes.length + 1
  | .lit _ => 1
  | .nil => 1
  | .ptr d => uptoBulk d + 1
  | .slice elems spare => uptoBulkAll elems + uptoBulkAll spare + 1
  | .agg parts => uptoBulkAll parts + 1
  | .iface _ d => uptoBulk d + 1
  | .map entries => uptoBulkEntries entries + 1
  | .held _ => 1
def uptoBulkAll {H : Type} : List (DataW H) → Nat
  | [] => 0
  | d :: r => uptoBulk d + uptoBulkAll r
def uptoBulkEntries {H : Type} : List (Lit × DataW H) → Nat
  | [] => 0
  | x :: r => uptoBulkEntry x + uptoBulkEntries r
def uptoBulkEntry {H : Type} : Lit × DataW H → Nat
  | (.string bytes, d) => bytes.length + uptoBulk d + 1
  | (_, d) => uptoBulk d + 1
 end
def uptoSmall : (H : Type) → List (DataW H) → Bool := fun _ ds => decide (uptoBulkAll ds ≤ 1048576)
def OpenSpec.upto (s : _root_.Go.ChangeSpec) : _root_.Go.OpenSpec := { _root_.Go.OpenSpec.ofChange s with cond := some uptoSmall }

/-- 'spacecraftlaw13.MarkerWraps', WHERE WHAT IT READS IS OF BULK AT MOST 1048576: true; the input reads as it did. -/
def markerWrapsUptoRow : OpenClaim := { program := "ytahpogmbkkpmdaa", sum := "4050bb56dfec5f26ab86ecb5313e89ef2f83b85ddad0c2bd9cbf7075a3d34c9b", func := "spacecraft/spacecraftlaw13.MarkerWraps", spec := "markerWraps", unfollowed := true, recurses := true, apart := false, narrowed := true }
def MarkerWrapsUptoSaid : Prop := markerWrapsUptoRow.holds Try.pinned (OpenSpec.upto markerWrapsSpec)

/-- 'spacecraftlaw13.MarkerFeeds', WHERE WHAT IT READS IS OF BULK AT MOST 1048576: true; the input reads as it did. -/
def markerFeedsUptoRow : OpenClaim := { program := "ytahpogmbkkpmdaa", sum := "4050bb56dfec5f26ab86ecb5313e89ef2f83b85ddad0c2bd9cbf7075a3d34c9b", func := "spacecraft/spacecraftlaw13.MarkerFeeds", spec := "markerFeeds", unfollowed := true, recurses := true, apart := false, narrowed := true }
def MarkerFeedsUptoSaid : Prop := markerFeedsUptoRow.holds Try.pinned (OpenSpec.upto markerFeedsSpec)

/-- 'spacecraftlaw13.MarkerFinds', WHERE WHAT IT READS IS OF BULK AT MOST 1048576: true; the input reads as it did. -/
def markerFindsUptoRow : OpenClaim := { program := "ytahpogmbkkpmdaa", sum := "4050bb56dfec5f26ab86ecb5313e89ef2f83b85ddad0c2bd9cbf7075a3d34c9b", func := "spacecraft/spacecraftlaw13.MarkerFinds", spec := "markerFinds", unfollowed := true, recurses := true, apart := false, narrowed := true }
def MarkerFindsUptoSaid : Prop := markerFindsUptoRow.holds Try.pinned (OpenSpec.upto markerFindsSpec)

end Rows
end Go.Proofs.Ytahpogmbkkpmdaa
