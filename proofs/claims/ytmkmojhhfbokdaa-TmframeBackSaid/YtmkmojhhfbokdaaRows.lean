/-
  No cell of these rows narrows 'for every input' (looked for: loops, veiled, ifaces, maps, wideKeys, modest, calm, conditions, laid).
  DERIVED. THE GIVEN ROWS OF THIS SEAT. 5 by the template 'for every input the law returns true; each argument reads behind the call as it read before'; 0 by the template 'total and deterministic' (their statements: YtmkmojhhfbokdaaTotals.lean).
  GIVEN WITH THE SEED: the statements are not yours to turn. If you find one false, say at which input.
  Laid BY PROGRAM, IN A SANDBOX (cutbox-rows.mjs): the forced cells as the released guide's own fill.sh prints them over the translation edaa6cfd9cd2aaea… (all of the seat's roots in one cut). By AI agents, Wed Nov 11 2026. No macro, syntax, notation, axiom, sorry.
-/
import Derived.Test.YtmkmojhhfbokdaaChecked
import GoSem.Claim
import GoSem.ClaimJoined
import GoSem.ClaimMapViews
import Derived.JoinedTies
import Derived.KernelRfl
namespace Go.Proofs.Ytmkmojhhfbokdaa
/- THE CELL 'sum', in the pinned program and in every row, IS THE sha256 OF THE DUMP (.gsa) THAT YtmkmojhhfbokdaaProg.lean LOADS. Nothing in Lean hashes anything: it is a label: what it is worth is what the hold of that sum in a sandbox is worth. -/
noncomputable def Try.pinned : Pinned := { name := "ytmkmojhhfbokdaa", sum := "edaa6cfd9cd2aaeacf8934839644ffe201a31dc55d52c8e44b4d271f19746407", checked := Try.checked }
namespace Rows
def none {H : Type} : Left H := { results := [], args := [] }

/-- 'spacecraftlaw18.TmframeEncodes': WHATEVER THE INPUT: true; the input reads as it did. -/
def tmframeEncodesSpec : ChangeSpec := { name := "tmframeEncodes", fn := fun _ => fun
  | [d] => { results := [.lit (.bool true)], args := [d] }
  | _ => none }
def tmframeEncodesRow : OpenClaim := { program := "ytmkmojhhfbokdaa", sum := "edaa6cfd9cd2aaeacf8934839644ffe201a31dc55d52c8e44b4d271f19746407", func := "spacecraft/spacecraftlaw18.TmframeEncodes", spec := "tmframeEncodes", apart := false }
def TmframeEncodesSaid : Prop := tmframeEncodesRow.holds Try.pinned (OpenSpec.ofChange tmframeEncodesSpec)

/-- ITS FALSE NEIGHBOUR: 'it returns false'. Refute it at one input. -/
def tmframeEncodesWrong : ChangeSpec := { name := "tmframeEncodes", fn := fun _ => fun
  | [d] => { results := [.lit (.bool false)], args := [d] }
  | _ => none }
def TmframeEncodesWrongFalsely : Prop := tmframeEncodesRow.holds Try.pinned (OpenSpec.ofChange tmframeEncodesWrong)

/-- 'spacecraftlaw18.TmframeDecodes': WHATEVER THE INPUT: true; the input reads as it did. -/
def tmframeDecodesSpec : ChangeSpec := { name := "tmframeDecodes", fn := fun _ => fun
  | [d] => { results := [.lit (.bool true)], args := [d] }
  | _ => none }
def tmframeDecodesRow : OpenClaim := { program := "ytmkmojhhfbokdaa", sum := "edaa6cfd9cd2aaeacf8934839644ffe201a31dc55d52c8e44b4d271f19746407", func := "spacecraft/spacecraftlaw18.TmframeDecodes", spec := "tmframeDecodes", apart := false }
def TmframeDecodesSaid : Prop := tmframeDecodesRow.holds Try.pinned (OpenSpec.ofChange tmframeDecodesSpec)

/-- ITS FALSE NEIGHBOUR: 'it returns false'. Refute it at one input. -/
def tmframeDecodesWrong : ChangeSpec := { name := "tmframeDecodes", fn := fun _ => fun
  | [d] => { results := [.lit (.bool false)], args := [d] }
  | _ => none }
def TmframeDecodesWrongFalsely : Prop := tmframeDecodesRow.holds Try.pinned (OpenSpec.ofChange tmframeDecodesWrong)

/-- 'spacecraftlaw18.TmframeBack': WHATEVER THE INPUT: true; the input reads as it did. -/
def tmframeBackSpec : ChangeSpec := { name := "tmframeBack", fn := fun _ => fun
  | [d] => { results := [.lit (.bool true)], args := [d] }
  | _ => none }
def tmframeBackRow : OpenClaim := { program := "ytmkmojhhfbokdaa", sum := "edaa6cfd9cd2aaeacf8934839644ffe201a31dc55d52c8e44b4d271f19746407", func := "spacecraft/spacecraftlaw18.TmframeBack", spec := "tmframeBack", apart := false }
def TmframeBackSaid : Prop := tmframeBackRow.holds Try.pinned (OpenSpec.ofChange tmframeBackSpec)

/-- ITS FALSE NEIGHBOUR: 'it returns false'. Refute it at one input. -/
def tmframeBackWrong : ChangeSpec := { name := "tmframeBack", fn := fun _ => fun
  | [d] => { results := [.lit (.bool false)], args := [d] }
  | _ => none }
def TmframeBackWrongFalsely : Prop := tmframeBackRow.holds Try.pinned (OpenSpec.ofChange tmframeBackWrong)

/-- 'spacecraftlaw18.TmframeOnce': WHATEVER THE INPUT: true; the input reads as it did. -/
def tmframeOnceSpec : ChangeSpec := { name := "tmframeOnce", fn := fun _ => fun
  | [d] => { results := [.lit (.bool true)], args := [d] }
  | _ => none }
def tmframeOnceRow : OpenClaim := { program := "ytmkmojhhfbokdaa", sum := "edaa6cfd9cd2aaeacf8934839644ffe201a31dc55d52c8e44b4d271f19746407", func := "spacecraft/spacecraftlaw18.TmframeOnce", spec := "tmframeOnce", apart := false }
def TmframeOnceSaid : Prop := tmframeOnceRow.holds Try.pinned (OpenSpec.ofChange tmframeOnceSpec)

/-- ITS FALSE NEIGHBOUR: 'it returns false'. Refute it at one input. -/
def tmframeOnceWrong : ChangeSpec := { name := "tmframeOnce", fn := fun _ => fun
  | [d] => { results := [.lit (.bool false)], args := [d] }
  | _ => none }
def TmframeOnceWrongFalsely : Prop := tmframeOnceRow.holds Try.pinned (OpenSpec.ofChange tmframeOnceWrong)

/-- 'spacecraftlaw18.TmframeDetects': WHATEVER THE INPUT: true; the input reads as it did. -/
def tmframeDetectsSpec : ChangeSpec := { name := "tmframeDetects", fn := fun _ => fun
  | [d1, d2] => { results := [.lit (.bool true)], args := [d1, d2] }
  | _ => none }
def tmframeDetectsRow : OpenClaim := { program := "ytmkmojhhfbokdaa", sum := "edaa6cfd9cd2aaeacf8934839644ffe201a31dc55d52c8e44b4d271f19746407", func := "spacecraft/spacecraftlaw18.TmframeDetects", spec := "tmframeDetects", apart := false }
def TmframeDetectsSaid : Prop := tmframeDetectsRow.holds Try.pinned (OpenSpec.ofChange tmframeDetectsSpec)

/-- ITS FALSE NEIGHBOUR: 'it returns false'. Refute it at one input. -/
def tmframeDetectsWrong : ChangeSpec := { name := "tmframeDetects", fn := fun _ => fun
  | [d1, d2] => { results := [.lit (.bool false)], args := [d1, d2] }
  | _ => none }
def TmframeDetectsWrongFalsely : Prop := tmframeDetectsRow.holds Try.pinned (OpenSpec.ofChange tmframeDetectsWrong)

/- THE SECOND FORM. 'bulk': how many values and letters a reading holds, each counted each time it is reached (what is shared counts as often as it is met; a slice's spare places count too). A statement '..UptoSaid' is the law's where the arguments, and the package variables that the reading takes, are together of bulk at most 1048576: NARROWER than '..Said'. Prove '..Said' where nothing that the law and all that it calls make is longer than what came in: it says more and counts as full. Else prove '..UptoSaid'. A law counts once. -/
mutual
def uptoBulk {H : Type} : DataW H → Nat
  | .lit (.string bytes) => bytes.length + 1
  | .lit _ => 1
  | .nil => 1
  | .ptr d => uptoBulk d + 1
  | .slice elems spare => uptoBulkAll elems + uptoBulkAll spare + 1
  | .agg parts => uptoBulkAll parts + 1
  | .iface _ d => uptoBulk d + 1
  | .map entries => uptoBulkEntries entries + 1
  | .held _ => 1
def uptoBulkAll {H : Type} : List (DataW H) → Nat
  | [] => 0
  | d :: r => uptoBulk d + uptoBulkAll r
def uptoBulkEntries {H : Type} : List (Lit × DataW H) → Nat
  | [] => 0
  | x :: r => uptoBulkEntry x + uptoBulkEntries r
def uptoBulkEntry {H : Type} : Lit × DataW H → Nat
  | (.string bytes, d) => bytes.length + uptoBulk d + 1
  | (_, d) => uptoBulk d + 1
 end
def uptoSmall : (H : Type) → List (DataW H) → Bool := fun _ ds => decide (uptoBulkAll ds ≤ 1048576)
def OpenSpec.upto (s : _root_.Go.ChangeSpec) : _root_.Go.OpenSpec := { _root_.Go.OpenSpec.ofChange s with cond := some uptoSmall }

/-- 'spacecraftlaw18.TmframeEncodes', WHERE WHAT IT READS IS OF BULK AT MOST 1048576: true; the input reads as it did. -/
def tmframeEncodesUptoRow : OpenClaim := { program := "ytmkmojhhfbokdaa", sum := "edaa6cfd9cd2aaeacf8934839644ffe201a31dc55d52c8e44b4d271f19746407", func := "spacecraft/spacecraftlaw18.TmframeEncodes", spec := "tmframeEncodes", apart := false, narrowed := true }
def TmframeEncodesUptoSaid : Prop := tmframeEncodesUptoRow.holds Try.pinned (OpenSpec.upto tmframeEncodesSpec)

/-- 'spacecraftlaw18.TmframeDecodes', WHERE WHAT IT READS IS OF BULK AT MOST 1048576: true; the input reads as it did. -/
def tmframeDecodesUptoRow : OpenClaim := { program := "ytmkmojhhfbokdaa", sum := "edaa6cfd9cd2aaeacf8934839644ffe201a31dc55d52c8e44b4d271f19746407", func := "spacecraft/spacecraftlaw18.TmframeDecodes", spec := "tmframeDecodes", apart := false, narrowed := true }
def TmframeDecodesUptoSaid : Prop := tmframeDecodesUptoRow.holds Try.pinned (OpenSpec.upto tmframeDecodesSpec)

/-- 'spacecraftlaw18.TmframeBack', WHERE WHAT IT READS IS OF BULK AT MOST 1048576: true; the input reads as it did. -/
def tmframeBackUptoRow : OpenClaim := { program := "ytmkmojhhfbokdaa", sum := "edaa6cfd9cd2aaeacf8934839644ffe201a31dc55d52c8e44b4d271f19746407", func := "spacecraft/spacecraftlaw18.TmframeBack", spec := "tmframeBack", apart := false, narrowed := true }
def TmframeBackUptoSaid : Prop := tmframeBackUptoRow.holds Try.pinned (OpenSpec.upto tmframeBackSpec)

/-- 'spacecraftlaw18.TmframeOnce', WHERE WHAT IT READS IS OF BULK AT MOST 1048576: true; the input reads as it did. -/
def tmframeOnceUptoRow : OpenClaim := { program := "ytmkmojhhfbokdaa", sum := "edaa6cfd9cd2aaeacf8934839644ffe201a31dc55d52c8e44b4d271f19746407", func := "spacecraft/spacecraftlaw18.TmframeOnce", spec := "tmframeOnce", apart := false, narrowed := true }
def TmframeOnceUptoSaid : Prop := tmframeOnceUptoRow.holds Try.pinned (OpenSpec.upto tmframeOnceSpec)

/-- 'spacecraftlaw18.TmframeDetects', WHERE WHAT IT READS IS OF BULK AT MOST 1048576: true; the input reads as it did. -/
def tmframeDetectsUptoRow : OpenClaim := { program := "ytmkmojhhfbokdaa", sum := "edaa6cfd9cd2aaeacf8934839644ffe201a31dc55d52c8e44b4d271f19746407", func := "spacecraft/spacecraftlaw18.TmframeDetects", spec := "tmframeDetects", apart := false, narrowed := true }
def TmframeDetectsUptoSaid : Prop := tmframeDetectsUptoRow.holds Try.pinned (OpenSpec.upto tmframeDetectsSpec)

end Rows
end Go.Proofs.Ytmkmojhhfbokdaa
