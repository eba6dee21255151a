/-
  No cell of these rows narrows 'for every input' (looked for: loops, veiled, ifaces, maps, wideKeys, modest, calm, conditions, laid).
  DERIVED. THE GIVEN ROWS OF THIS SEAT. 6 by the template 'for every input the law returns true; each argument reads behind the call as it read before'; 0 by the template 'total and deterministic' (their statements: YtdpjjhbfhlmolaaTotals.lean).
  GIVEN WITH THE SEED: the statements are not yours to turn. If you find one false, say at which input.
  Laid BY PROGRAM, IN A SANDBOX (cutbox-rows.mjs): the forced cells as the released guide's own fill.sh prints them over the translation 7f1039605218a520… (all of the seat's roots in one cut). By AI agents, Wed Nov 11 2026. No macro, syntax, notation, axiom, sorry.
-/
import Derived.Test.YtdpjjhbfhlmolaaChecked
import GoSem.Claim
import GoSem.ClaimJoined
import GoSem.ClaimMapViews
import Derived.JoinedTies
import Derived.KernelRfl
namespace Go.Proofs.Ytdpjjhbfhlmolaa
/- THE CELL 'sum', in the pinned program and in every row, IS THE sha256 OF THE DUMP (.gsa) THAT YtdpjjhbfhlmolaaProg.lean LOADS. Nothing in Lean hashes anything: it is a label: what it is worth is what the hold of that sum in a sandbox is worth. -/
noncomputable def Try.pinned : Pinned := { name := "ytdpjjhbfhlmolaa", sum := "7f1039605218a5206f2e2e8749937eaf02b979de40b4d8f98abe0784c5d0f1ad", checked := Try.checked }
namespace Rows
def none {H : Type} : Left H := { results := [], args := [] }

/-- 'spacecraftlaw17.FopPlays': WHATEVER THE INPUT: true; the input reads as it did. -/
def fopPlaysSpec : ChangeSpec := { name := "fopPlays", fn := fun _ => fun
  | [d1, d2] => { results := [.lit (.bool true)], args := [d1, d2] }
  | _ => none }
def fopPlaysRow : OpenClaim := { program := "ytdpjjhbfhlmolaa", sum := "7f1039605218a5206f2e2e8749937eaf02b979de40b4d8f98abe0784c5d0f1ad", func := "spacecraft/spacecraftlaw17.FopPlays", spec := "fopPlays", apart := false }
def FopPlaysSaid : Prop := fopPlaysRow.holds Try.pinned (OpenSpec.ofChange fopPlaysSpec)

/-- ITS FALSE NEIGHBOUR: 'it returns false'. Refute it at one input. -/
def fopPlaysWrong : ChangeSpec := { name := "fopPlays", fn := fun _ => fun
  | [d1, d2] => { results := [.lit (.bool false)], args := [d1, d2] }
  | _ => none }
def FopPlaysWrongFalsely : Prop := fopPlaysRow.holds Try.pinned (OpenSpec.ofChange fopPlaysWrong)

/-- 'spacecraftlaw17.FopDelivers': WHATEVER THE INPUT: true; the input reads as it did. -/
def fopDeliversSpec : ChangeSpec := { name := "fopDelivers", fn := fun _ => fun
  | [d1, d2, d3, d4, d5] => { results := [.lit (.bool true)], args := [d1, d2, d3, d4, d5] }
  | _ => none }
def fopDeliversRow : OpenClaim := { program := "ytdpjjhbfhlmolaa", sum := "7f1039605218a5206f2e2e8749937eaf02b979de40b4d8f98abe0784c5d0f1ad", func := "spacecraft/spacecraftlaw17.FopDelivers", spec := "fopDelivers", apart := false }
def FopDeliversSaid : Prop := fopDeliversRow.holds Try.pinned (OpenSpec.ofChange fopDeliversSpec)

/-- ITS FALSE NEIGHBOUR: 'it returns false'. Refute it at one input. -/
def fopDeliversWrong : ChangeSpec := { name := "fopDelivers", fn := fun _ => fun
  | [d1, d2, d3, d4, d5] => { results := [.lit (.bool false)], args := [d1, d2, d3, d4, d5] }
  | _ => none }
def FopDeliversWrongFalsely : Prop := fopDeliversRow.holds Try.pinned (OpenSpec.ofChange fopDeliversWrong)

/-- 'spacecraftlaw17.FopWindow': WHATEVER THE INPUT: true; the input reads as it did. -/
def fopWindowSpec : ChangeSpec := { name := "fopWindow", fn := fun _ => fun
  | [d1, d2, d3] => { results := [.lit (.bool true)], args := [d1, d2, d3] }
  | _ => none }
def fopWindowRow : OpenClaim := { program := "ytdpjjhbfhlmolaa", sum := "7f1039605218a5206f2e2e8749937eaf02b979de40b4d8f98abe0784c5d0f1ad", func := "spacecraft/spacecraftlaw17.FopWindow", spec := "fopWindow", apart := false }
def FopWindowSaid : Prop := fopWindowRow.holds Try.pinned (OpenSpec.ofChange fopWindowSpec)

/-- ITS FALSE NEIGHBOUR: 'it returns false'. Refute it at one input. -/
def fopWindowWrong : ChangeSpec := { name := "fopWindow", fn := fun _ => fun
  | [d1, d2, d3] => { results := [.lit (.bool false)], args := [d1, d2, d3] }
  | _ => none }
def FopWindowWrongFalsely : Prop := fopWindowRow.holds Try.pinned (OpenSpec.ofChange fopWindowWrong)

/-- 'spacecraftlaw17.FopStops': WHATEVER THE INPUT: true; the input reads as it did. -/
def fopStopsSpec : ChangeSpec := { name := "fopStops", fn := fun _ => fun
  | [d1, d2, d3] => { results := [.lit (.bool true)], args := [d1, d2, d3] }
  | _ => none }
def fopStopsRow : OpenClaim := { program := "ytdpjjhbfhlmolaa", sum := "7f1039605218a5206f2e2e8749937eaf02b979de40b4d8f98abe0784c5d0f1ad", func := "spacecraft/spacecraftlaw17.FopStops", spec := "fopStops", apart := false }
def FopStopsSaid : Prop := fopStopsRow.holds Try.pinned (OpenSpec.ofChange fopStopsSpec)

/-- ITS FALSE NEIGHBOUR: 'it returns false'. Refute it at one input. -/
def fopStopsWrong : ChangeSpec := { name := "fopStops", fn := fun _ => fun
  | [d1, d2, d3] => { results := [.lit (.bool false)], args := [d1, d2, d3] }
  | _ => none }
def FopStopsWrongFalsely : Prop := fopStopsRow.holds Try.pinned (OpenSpec.ofChange fopStopsWrong)

/-- 'spacecraftlaw17.FopNil': WHATEVER THE INPUT: true; the input reads as it did. -/
def fopNilSpec : ChangeSpec := { name := "fopNil", fn := fun _ => fun
  | [d1, d2, d3] => { results := [.lit (.bool true)], args := [d1, d2, d3] }
  | _ => none }
def fopNilRow : OpenClaim := { program := "ytdpjjhbfhlmolaa", sum := "7f1039605218a5206f2e2e8749937eaf02b979de40b4d8f98abe0784c5d0f1ad", func := "spacecraft/spacecraftlaw17.FopNil", spec := "fopNil", apart := false }
def FopNilSaid : Prop := fopNilRow.holds Try.pinned (OpenSpec.ofChange fopNilSpec)

/-- ITS FALSE NEIGHBOUR: 'it returns false'. Refute it at one input. -/
def fopNilWrong : ChangeSpec := { name := "fopNil", fn := fun _ => fun
  | [d1, d2, d3] => { results := [.lit (.bool false)], args := [d1, d2, d3] }
  | _ => none }
def FopNilWrongFalsely : Prop := fopNilRow.holds Try.pinned (OpenSpec.ofChange fopNilWrong)

/-- 'spacecrafttop.TopSequence': WHATEVER THE INPUT: true; the input reads as it did. -/
def topSequenceSpec : ChangeSpec := { name := "topSequence", fn := fun _ => fun
  | [d1, d2, d3] => { results := [.lit (.bool true)], args := [d1, d2, d3] }
  | _ => none }
def topSequenceRow : OpenClaim := { program := "ytdpjjhbfhlmolaa", sum := "7f1039605218a5206f2e2e8749937eaf02b979de40b4d8f98abe0784c5d0f1ad", func := "spacecraft/spacecrafttop.TopSequence", spec := "topSequence", apart := false }
def TopSequenceSaid : Prop := topSequenceRow.holds Try.pinned (OpenSpec.ofChange topSequenceSpec)

/-- ITS FALSE NEIGHBOUR: 'it returns false'. Refute it at one input. -/
def topSequenceWrong : ChangeSpec := { name := "topSequence", fn := fun _ => fun
  | [d1, d2, d3] => { results := [.lit (.bool false)], args := [d1, d2, d3] }
  | _ => none }
def TopSequenceWrongFalsely : Prop := topSequenceRow.holds Try.pinned (OpenSpec.ofChange topSequenceWrong)

/- THE SECOND FORM. 'bulk': how many values and letters a reading holds, each counted each time it is reached (what is shared counts as often as it is met; a slice's spare places count too). A statement '..UptoSaid' is the law's where the arguments, and the package variables that the reading takes, are together of bulk at most 1048576: NARROWER than '..Said'. Prove '..Said' where nothing that the law and all that it calls make is longer than what came in: it says more and counts as full. Else prove '..UptoSaid'. A law counts once. -/
mutual
def uptoBulk {H : Type} : DataW H → Nat
  | .lit (.string bytes) => bytes.length + 1
  | .lit _ => 1
  | .nil => 1
  | .ptr d => uptoBulk d + 1
  | .slice elems spare => uptoBulkAll elems + uptoBulkAll spare + 1
  | .agg parts => uptoBulkAll parts + 1
  | .iface _ d => uptoBulk d + 1
  | .map entries => uptoBulkEntries entries + 1
  | .held _ => 1
def uptoBulkAll {H : Type} : List (DataW H) → Nat
  | [] => 0
  | d :: r => uptoBulk d + uptoBulkAll r
def uptoBulkEntries {H : Type} : List (Lit × DataW H) → Nat
  | [] => 0
  | x :: r => uptoBulkEntry x + uptoBulkEntries r
def uptoBulkEntry {H : Type} : Lit × DataW H → Nat
  | (.string bytes, d) => bytes.length + uptoBulk d + 1
  | (_, d) => uptoBulk d + 1
 end
def uptoSmall : (H : Type) → List (DataW H) → Bool := fun _ ds => decide (uptoBulkAll ds ≤ 1048576)
def OpenSpec.upto (s : _root_.Go.ChangeSpec) : _root_.Go.OpenSpec := { _root_.Go.OpenSpec.ofChange s with cond := some uptoSmall }

/-- 'spacecraftlaw17.FopPlays', WHERE WHAT IT READS IS OF BULK AT MOST 1048576: true; the input reads as it did. -/
def fopPlaysUptoRow : OpenClaim := { program := "ytdpjjhbfhlmolaa", sum := "7f1039605218a5206f2e2e8749937eaf02b979de40b4d8f98abe0784c5d0f1ad", func := "spacecraft/spacecraftlaw17.FopPlays", spec := "fopPlays", apart := false, narrowed := true }
def FopPlaysUptoSaid : Prop := fopPlaysUptoRow.holds Try.pinned (OpenSpec.upto fopPlaysSpec)

/-- 'spacecraftlaw17.FopDelivers', WHERE WHAT IT READS IS OF BULK AT MOST 1048576: true; the input reads as it did. -/
def fopDeliversUptoRow : OpenClaim := { program := "ytdpjjhbfhlmolaa", sum := "7f1039605218a5206f2e2e8749937eaf02b979de40b4d8f98abe0784c5d0f1ad", func := "spacecraft/spacecraftlaw17.FopDelivers", spec := "fopDelivers", apart := false, narrowed := true }
def FopDeliversUptoSaid : Prop := fopDeliversUptoRow.holds Try.pinned (OpenSpec.upto fopDeliversSpec)

/-- 'spacecraftlaw17.FopWindow', WHERE WHAT IT READS IS OF BULK AT MOST 1048576: true; the input reads as it did. -/
def fopWindowUptoRow : OpenClaim := { program := "ytdpjjhbfhlmolaa", sum := "7f1039605218a5206f2e2e8749937eaf02b979de40b4d8f98abe0784c5d0f1ad", func := "spacecraft/spacecraftlaw17.FopWindow", spec := "fopWindow", apart := false, narrowed := true }
def FopWindowUptoSaid : Prop := fopWindowUptoRow.holds Try.pinned (OpenSpec.upto fopWindowSpec)

/-- 'spacecraftlaw17.FopStops', WHERE WHAT IT READS IS OF BULK AT MOST 1048576: true; the input reads as it did. -/
def fopStopsUptoRow : OpenClaim := { program := "ytdpjjhbfhlmolaa", sum := "7f1039605218a5206f2e2e8749937eaf02b979de40b4d8f98abe0784c5d0f1ad", func := "spacecraft/spacecraftlaw17.FopStops", spec := "fopStops", apart := false, narrowed := true }
def FopStopsUptoSaid : Prop := fopStopsUptoRow.holds Try.pinned (OpenSpec.upto fopStopsSpec)

/-- 'spacecraftlaw17.FopNil', WHERE WHAT IT READS IS OF BULK AT MOST 1048576: true; the input reads as it did. -/
def fopNilUptoRow : OpenClaim := { program := "ytdpjjhbfhlmolaa", sum := "7f1039605218a5206f2e2e8749937eaf02b979de40b4d8f98abe0784c5d0f1ad", func := "spacecraft/spacecraftlaw17.FopNil", spec := "fopNil", apart := false, narrowed := true }
def FopNilUptoSaid : Prop := fopNilUptoRow.holds Try.pinned (OpenSpec.upto fopNilSpec)

/-- 'spacecrafttop.TopSequence', WHERE WHAT IT READS IS OF BULK AT MOST 1048576: true; the input reads as it did. -/
def topSequenceUptoRow : OpenClaim := { program := "ytdpjjhbfhlmolaa", sum := "7f1039605218a5206f2e2e8749937eaf02b979de40b4d8f98abe0784c5d0f1ad", func := "spacecraft/spacecrafttop.TopSequence", spec := "topSequence", apart := false, narrowed := true }
def TopSequenceUptoSaid : Prop := topSequenceUptoRow.holds Try.pinned (OpenSpec.upto topSequenceSpec)

end Rows
end Go.Proofs.Ytdpjjhbfhlmolaa
