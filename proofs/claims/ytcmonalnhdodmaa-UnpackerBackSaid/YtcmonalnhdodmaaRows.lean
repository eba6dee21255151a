/-
  No cell of these rows narrows 'for every input' (looked for: loops, veiled, ifaces, maps, wideKeys, modest, calm, conditions, laid).
  DERIVED. THE GIVEN ROWS OF THIS SEAT. 5 by the template 'for every input the law returns true; each argument reads behind the call as it read before'; 0 by the template 'total and deterministic' (their statements: YtcmonalnhdodmaaTotals.lean).
  GIVEN WITH THE SEED: the statements are not yours to turn. If you find one false, say at which input.
  Laid BY PROGRAM, IN A SANDBOX (cutbox-rows.mjs): the forced cells as the released guide's own fill.sh prints them over the translation b2ad9cafdc9cf319… (all of the seat's roots in one cut). By AI agents, Wed Nov 11 2026. No macro, syntax, notation, axiom, sorry.
-/
import Derived.Test.YtcmonalnhdodmaaChecked
import GoSem.Claim
import GoSem.ClaimJoined
import GoSem.ClaimMapViews
import Derived.JoinedTies
import Derived.KernelRfl
namespace Go.Proofs.Ytcmonalnhdodmaa
/- THE CELL 'sum', in the pinned program and in every row, IS THE sha256 OF THE DUMP (.gsa) THAT YtcmonalnhdodmaaProg.lean LOADS. Nothing in Lean hashes anything: it is a label: what it is worth is what the hold of that sum in a sandbox is worth. -/
noncomputable def Try.pinned : Pinned := { name := "ytcmonalnhdodmaa", sum := "b2ad9cafdc9cf319fd7f0e56aabe902c8b4ceb176ac107b0e78a2fa8e95afbce", checked := Try.checked }
namespace Rows
def none {H : Type} : Left H := { results := [], args := [] }

/-- 'spacecraftlaw20.UnpackerPlays': WHATEVER THE INPUT: true; the input reads as it did. -/
def unpackerPlaysSpec : ChangeSpec := { name := "unpackerPlays", fn := fun _ => fun
  | [d1, d2] => { results := [.lit (.bool true)], args := [d1, d2] }
  | _ => none }
def unpackerPlaysRow : OpenClaim := { program := "ytcmonalnhdodmaa", sum := "b2ad9cafdc9cf319fd7f0e56aabe902c8b4ceb176ac107b0e78a2fa8e95afbce", func := "spacecraft/spacecraftlaw20.UnpackerPlays", spec := "unpackerPlays", apart := false }
def UnpackerPlaysSaid : Prop := unpackerPlaysRow.holds Try.pinned (OpenSpec.ofChange unpackerPlaysSpec)

/-- ITS FALSE NEIGHBOUR: 'it returns false'. Refute it at one input. -/
def unpackerPlaysWrong : ChangeSpec := { name := "unpackerPlays", fn := fun _ => fun
  | [d1, d2] => { results := [.lit (.bool false)], args := [d1, d2] }
  | _ => none }
def UnpackerPlaysWrongFalsely : Prop := unpackerPlaysRow.holds Try.pinned (OpenSpec.ofChange unpackerPlaysWrong)

/-- 'spacecraftlaw20.UnpackerBack': WHATEVER THE INPUT: true; the input reads as it did. -/
def unpackerBackSpec : ChangeSpec := { name := "unpackerBack", fn := fun _ => fun
  | [d1, d2, d3, d4, d5] => { results := [.lit (.bool true)], args := [d1, d2, d3, d4, d5] }
  | _ => none }
def unpackerBackRow : OpenClaim := { program := "ytcmonalnhdodmaa", sum := "b2ad9cafdc9cf319fd7f0e56aabe902c8b4ceb176ac107b0e78a2fa8e95afbce", func := "spacecraft/spacecraftlaw20.UnpackerBack", spec := "unpackerBack", apart := false }
def UnpackerBackSaid : Prop := unpackerBackRow.holds Try.pinned (OpenSpec.ofChange unpackerBackSpec)

/-- ITS FALSE NEIGHBOUR: 'it returns false'. Refute it at one input. -/
def unpackerBackWrong : ChangeSpec := { name := "unpackerBack", fn := fun _ => fun
  | [d1, d2, d3, d4, d5] => { results := [.lit (.bool false)], args := [d1, d2, d3, d4, d5] }
  | _ => none }
def UnpackerBackWrongFalsely : Prop := unpackerBackRow.holds Try.pinned (OpenSpec.ofChange unpackerBackWrong)

/-- 'spacecraftlaw20.UnpackerSizes': WHATEVER THE INPUT: true; the input reads as it did. -/
def unpackerSizesSpec : ChangeSpec := { name := "unpackerSizes", fn := fun _ => fun
  | [d1, d2] => { results := [.lit (.bool true)], args := [d1, d2] }
  | _ => none }
def unpackerSizesRow : OpenClaim := { program := "ytcmonalnhdodmaa", sum := "b2ad9cafdc9cf319fd7f0e56aabe902c8b4ceb176ac107b0e78a2fa8e95afbce", func := "spacecraft/spacecraftlaw20.UnpackerSizes", spec := "unpackerSizes", apart := false }
def UnpackerSizesSaid : Prop := unpackerSizesRow.holds Try.pinned (OpenSpec.ofChange unpackerSizesSpec)

/-- ITS FALSE NEIGHBOUR: 'it returns false'. Refute it at one input. -/
def unpackerSizesWrong : ChangeSpec := { name := "unpackerSizes", fn := fun _ => fun
  | [d1, d2] => { results := [.lit (.bool false)], args := [d1, d2] }
  | _ => none }
def UnpackerSizesWrongFalsely : Prop := unpackerSizesRow.holds Try.pinned (OpenSpec.ofChange unpackerSizesWrong)

/-- 'spacecraftlaw20.UnpackerNil': WHATEVER THE INPUT: true; the input reads as it did. -/
def unpackerNilSpec : ChangeSpec := { name := "unpackerNil", fn := fun _ => fun
  | [d1, d2, d3] => { results := [.lit (.bool true)], args := [d1, d2, d3] }
  | _ => none }
def unpackerNilRow : OpenClaim := { program := "ytcmonalnhdodmaa", sum := "b2ad9cafdc9cf319fd7f0e56aabe902c8b4ceb176ac107b0e78a2fa8e95afbce", func := "spacecraft/spacecraftlaw20.UnpackerNil", spec := "unpackerNil", apart := false }
def UnpackerNilSaid : Prop := unpackerNilRow.holds Try.pinned (OpenSpec.ofChange unpackerNilSpec)

/-- ITS FALSE NEIGHBOUR: 'it returns false'. Refute it at one input. -/
def unpackerNilWrong : ChangeSpec := { name := "unpackerNil", fn := fun _ => fun
  | [d1, d2, d3] => { results := [.lit (.bool false)], args := [d1, d2, d3] }
  | _ => none }
def UnpackerNilWrongFalsely : Prop := unpackerNilRow.holds Try.pinned (OpenSpec.ofChange unpackerNilWrong)

/-- 'spacecrafttop.TopPackets': WHATEVER THE INPUT: true; the input reads as it did. -/
def topPacketsSpec : ChangeSpec := { name := "topPackets", fn := fun _ => fun
  | [d1, d2, d3] => { results := [.lit (.bool true)], args := [d1, d2, d3] }
  | _ => none }
def topPacketsRow : OpenClaim := { program := "ytcmonalnhdodmaa", sum := "b2ad9cafdc9cf319fd7f0e56aabe902c8b4ceb176ac107b0e78a2fa8e95afbce", func := "spacecraft/spacecrafttop.TopPackets", spec := "topPackets", apart := false }
def TopPacketsSaid : Prop := topPacketsRow.holds Try.pinned (OpenSpec.ofChange topPacketsSpec)

/-- ITS FALSE NEIGHBOUR: 'it returns false'. Refute it at one input. -/
def topPacketsWrong : ChangeSpec := { name := "topPackets", fn := fun _ => fun
  | [d1, d2, d3] => { results := [.lit (.bool false)], args := [d1, d2, d3] }
  | _ => none }
def TopPacketsWrongFalsely : Prop := topPacketsRow.holds Try.pinned (OpenSpec.ofChange topPacketsWrong)

/- THE SECOND FORM. 'bulk': how many values and letters a reading holds, each counted each time it is reached (what is shared counts as often as it is met; a slice's spare places count too). A statement '..UptoSaid' is the law's where the arguments, and the package variables that the reading takes, are together of bulk at most 1048576: NARROWER than '..Said'. Prove '..Said' where nothing that the law and all that it calls make is longer than what came in: it says more and counts as full. Else prove '..UptoSaid'. A law counts once. -/
mutual
def uptoBulk {H : Type} : DataW H → Nat
  | .lit (.string bytes) => bytes.length + 1
  | .lit _ => 1
  | .nil => 1
  | .ptr d => uptoBulk d + 1
  | .slice elems spare => uptoBulkAll elems + uptoBulkAll spare + 1
  | .agg parts => uptoBulkAll parts + 1
  | .iface _ d => uptoBulk d + 1
  | .map entries => uptoBulkEntries entries + 1
  | .held _ => 1
def uptoBulkAll {H : Type} : List (DataW H) → Nat
  | [] => 0
  | d :: r => uptoBulk d + uptoBulkAll r
def uptoBulkEntries {H : Type} : List (Lit × DataW H) → Nat
  | [] => 0
  | x :: r => uptoBulkEntry x + uptoBulkEntries r
def uptoBulkEntry {H : Type} : Lit × DataW H → Nat
  | (.string bytes, d) => bytes.length + uptoBulk d + 1
  | (_, d) => uptoBulk d + 1
 end
def uptoSmall : (H : Type) → List (DataW H) → Bool := fun _ ds => decide (uptoBulkAll ds ≤ 1048576)
def OpenSpec.upto (s : _root_.Go.ChangeSpec) : _root_.Go.OpenSpec := { _root_.Go.OpenSpec.ofChange s with cond := some uptoSmall }

/-- 'spacecraftlaw20.UnpackerPlays', WHERE WHAT IT READS IS OF BULK AT MOST 1048576: true; the input reads as it did. -/
def unpackerPlaysUptoRow : OpenClaim := { program := "ytcmonalnhdodmaa", sum := "b2ad9cafdc9cf319fd7f0e56aabe902c8b4ceb176ac107b0e78a2fa8e95afbce", func := "spacecraft/spacecraftlaw20.UnpackerPlays", spec := "unpackerPlays", apart := false, narrowed := true }
def UnpackerPlaysUptoSaid : Prop := unpackerPlaysUptoRow.holds Try.pinned (OpenSpec.upto unpackerPlaysSpec)

/-- 'spacecraftlaw20.UnpackerBack', WHERE WHAT IT READS IS OF BULK AT MOST 1048576: true; the input reads as it did. -/
def unpackerBackUptoRow : OpenClaim := { program := "ytcmonalnhdodmaa", sum := "b2ad9cafdc9cf319fd7f0e56aabe902c8b4ceb176ac107b0e78a2fa8e95afbce", func := "spacecraft/spacecraftlaw20.UnpackerBack", spec := "unpackerBack", apart := false, narrowed := true }
def UnpackerBackUptoSaid : Prop := unpackerBackUptoRow.holds Try.pinned (OpenSpec.upto unpackerBackSpec)

/-- 'spacecraftlaw20.UnpackerSizes', WHERE WHAT IT READS IS OF BULK AT MOST 1048576: true; the input reads as it did. -/
def unpackerSizesUptoRow : OpenClaim := { program := "ytcmonalnhdodmaa", sum := "b2ad9cafdc9cf319fd7f0e56aabe902c8b4ceb176ac107b0e78a2fa8e95afbce", func := "spacecraft/spacecraftlaw20.UnpackerSizes", spec := "unpackerSizes", apart := false, narrowed := true }
def UnpackerSizesUptoSaid : Prop := unpackerSizesUptoRow.holds Try.pinned (OpenSpec.upto unpackerSizesSpec)

/-- 'spacecraftlaw20.UnpackerNil', WHERE WHAT IT READS IS OF BULK AT MOST 1048576: true; the input reads as it did. -/
def unpackerNilUptoRow : OpenClaim := { program := "ytcmonalnhdodmaa", sum := "b2ad9cafdc9cf319fd7f0e56aabe902c8b4ceb176ac107b0e78a2fa8e95afbce", func := "spacecraft/spacecraftlaw20.UnpackerNil", spec := "unpackerNil", apart := false, narrowed := true }
def UnpackerNilUptoSaid : Prop := unpackerNilUptoRow.holds Try.pinned (OpenSpec.upto unpackerNilSpec)

/-- 'spacecrafttop.TopPackets', WHERE WHAT IT READS IS OF BULK AT MOST 1048576: true; the input reads as it did. -/
def topPacketsUptoRow : OpenClaim := { program := "ytcmonalnhdodmaa", sum := "b2ad9cafdc9cf319fd7f0e56aabe902c8b4ceb176ac107b0e78a2fa8e95afbce", func := "spacecraft/spacecrafttop.TopPackets", spec := "topPackets", apart := false, narrowed := true }
def TopPacketsUptoSaid : Prop := topPacketsUptoRow.holds Try.pinned (OpenSpec.upto topPacketsSpec)

end Rows
end Go.Proofs.Ytcmonalnhdodmaa
