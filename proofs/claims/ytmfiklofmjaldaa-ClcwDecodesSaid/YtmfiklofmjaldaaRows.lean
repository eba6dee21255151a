/-
  No cell of these rows narrows 'for every input' (looked for: loops, veiled, ifaces, maps, wideKeys, modest, calm, conditions, laid).
  DERIVED. THE GIVEN ROWS OF THIS SEAT. 4 by the template 'for every input the law returns true; each argument reads behind the call as it read before'; 0 by the template 'total and deterministic' (their statements: YtmfiklofmjaldaaTotals.lean).
  GIVEN WITH THE SEED: the statements are not yours to turn. If you find one false, say at which input.
  Laid BY PROGRAM, IN A SANDBOX (cutbox-rows.mjs): the forced cells as the released guide's own fill.sh prints them over the translation e3f171f70677ca7d… (all of the seat's roots in one cut). By AI agents, Wed Nov 11 2026. No macro, syntax, notation, axiom, sorry.
-/
import Derived.Test.YtmfiklofmjaldaaChecked
import GoSem.Claim
import GoSem.ClaimJoined
import GoSem.ClaimMapViews
import Derived.JoinedTies
import Derived.KernelRfl
namespace Go.Proofs.Ytmfiklofmjaldaa
/- THE CELL 'sum', in the pinned program and in every row, IS THE sha256 OF THE DUMP (.gsa) THAT YtmfiklofmjaldaaProg.lean LOADS. Nothing in Lean hashes anything: it is a label: what it is worth is what the hold of that sum in a sandbox is worth. -/
noncomputable def Try.pinned : Pinned := { name := "ytmfiklofmjaldaa", sum := "e3f171f70677ca7d29b904c73a8bae433e8b1beda5baf66fa9fff43be5b0b844", checked := Try.checked }
namespace Rows
def none {H : Type} : Left H := { results := [], args := [] }

/-- 'spacecraftlaw15.ClcwEncodes': WHATEVER THE INPUT: true; the input reads as it did. -/
def clcwEncodesSpec : ChangeSpec := { name := "clcwEncodes", fn := fun _ => fun
  | [d] => { results := [.lit (.bool true)], args := [d] }
  | _ => none }
def clcwEncodesRow : OpenClaim := { program := "ytmfiklofmjaldaa", sum := "e3f171f70677ca7d29b904c73a8bae433e8b1beda5baf66fa9fff43be5b0b844", func := "spacecraft/spacecraftlaw15.ClcwEncodes", spec := "clcwEncodes", apart := false }
def ClcwEncodesSaid : Prop := clcwEncodesRow.holds Try.pinned (OpenSpec.ofChange clcwEncodesSpec)

/-- ITS FALSE NEIGHBOUR: 'it returns false'. Refute it at one input. -/
def clcwEncodesWrong : ChangeSpec := { name := "clcwEncodes", fn := fun _ => fun
  | [d] => { results := [.lit (.bool false)], args := [d] }
  | _ => none }
def ClcwEncodesWrongFalsely : Prop := clcwEncodesRow.holds Try.pinned (OpenSpec.ofChange clcwEncodesWrong)

/-- 'spacecraftlaw15.ClcwDecodes': WHATEVER THE INPUT: true; the input reads as it did. -/
def clcwDecodesSpec : ChangeSpec := { name := "clcwDecodes", fn := fun _ => fun
  | [d] => { results := [.lit (.bool true)], args := [d] }
  | _ => none }
def clcwDecodesRow : OpenClaim := { program := "ytmfiklofmjaldaa", sum := "e3f171f70677ca7d29b904c73a8bae433e8b1beda5baf66fa9fff43be5b0b844", func := "spacecraft/spacecraftlaw15.ClcwDecodes", spec := "clcwDecodes", apart := false }
def ClcwDecodesSaid : Prop := clcwDecodesRow.holds Try.pinned (OpenSpec.ofChange clcwDecodesSpec)

/-- ITS FALSE NEIGHBOUR: 'it returns false'. Refute it at one input. -/
def clcwDecodesWrong : ChangeSpec := { name := "clcwDecodes", fn := fun _ => fun
  | [d] => { results := [.lit (.bool false)], args := [d] }
  | _ => none }
def ClcwDecodesWrongFalsely : Prop := clcwDecodesRow.holds Try.pinned (OpenSpec.ofChange clcwDecodesWrong)

/-- 'spacecraftlaw15.ClcwBack': WHATEVER THE INPUT: true; the input reads as it did. -/
def clcwBackSpec : ChangeSpec := { name := "clcwBack", fn := fun _ => fun
  | [d] => { results := [.lit (.bool true)], args := [d] }
  | _ => none }
def clcwBackRow : OpenClaim := { program := "ytmfiklofmjaldaa", sum := "e3f171f70677ca7d29b904c73a8bae433e8b1beda5baf66fa9fff43be5b0b844", func := "spacecraft/spacecraftlaw15.ClcwBack", spec := "clcwBack", apart := false }
def ClcwBackSaid : Prop := clcwBackRow.holds Try.pinned (OpenSpec.ofChange clcwBackSpec)

/-- ITS FALSE NEIGHBOUR: 'it returns false'. Refute it at one input. -/
def clcwBackWrong : ChangeSpec := { name := "clcwBack", fn := fun _ => fun
  | [d] => { results := [.lit (.bool false)], args := [d] }
  | _ => none }
def ClcwBackWrongFalsely : Prop := clcwBackRow.holds Try.pinned (OpenSpec.ofChange clcwBackWrong)

/-- 'spacecraftlaw15.ClcwOnly': WHATEVER THE INPUT: true; the input reads as it did. -/
def clcwOnlySpec : ChangeSpec := { name := "clcwOnly", fn := fun _ => fun
  | [d] => { results := [.lit (.bool true)], args := [d] }
  | _ => none }
def clcwOnlyRow : OpenClaim := { program := "ytmfiklofmjaldaa", sum := "e3f171f70677ca7d29b904c73a8bae433e8b1beda5baf66fa9fff43be5b0b844", func := "spacecraft/spacecraftlaw15.ClcwOnly", spec := "clcwOnly", apart := false }
def ClcwOnlySaid : Prop := clcwOnlyRow.holds Try.pinned (OpenSpec.ofChange clcwOnlySpec)

/-- ITS FALSE NEIGHBOUR: 'it returns false'. Refute it at one input. -/
def clcwOnlyWrong : ChangeSpec := { name := "clcwOnly", fn := fun _ => fun
  | [d] => { results := [.lit (.bool false)], args := [d] }
  | _ => none }
def ClcwOnlyWrongFalsely : Prop := clcwOnlyRow.holds Try.pinned (OpenSpec.ofChange clcwOnlyWrong)

/- THE SECOND FORM. 'bulk': how many values and letters a reading holds, each counted each time it is reached (what is shared counts as often as it is met; a slice's spare places count too). A statement '..UptoSaid' is the law's where the arguments, and the package variables that the reading takes, are together of bulk at most 1048576: NARROWER than '..Said'. Prove '..Said' where nothing that the law and all that it calls make is longer than what came in: it says more and counts as full. Else prove '..UptoSaid'. A law counts once. -/
mutual
def uptoBulk {H : Type} : DataW H → Nat
  | .lit (.string bytes) => bytes.length + 1
  | .lit _ => 1
  | .nil => 1
  | .ptr d => uptoBulk d + 1
  | .slice elems spare => uptoBulkAll elems + uptoBulkAll spare + 1
  | .agg parts => uptoBulkAll parts + 1
  | .iface _ d => uptoBulk d + 1
  | .map entries => uptoBulkEntries entries + 1
  | .held _ => 1
def uptoBulkAll {H : Type} : List (DataW H) → Nat
  | [] => 0
  | d :: r => uptoBulk d + uptoBulkAll r
def uptoBulkEntries {H : Type} : List (Lit × DataW H) → Nat
  | [] => 0
  | x :: r => uptoBulkEntry x + uptoBulkEntries r
def uptoBulkEntry {H : Type} : Lit × DataW H → Nat
  | (.string bytes, d) => bytes.length + uptoBulk d + 1
  | (_, d) => uptoBulk d + 1
 end
def uptoSmall : (H : Type) → List (DataW H) → Bool := fun _ ds => decide (uptoBulkAll ds ≤ 1048576)
def OpenSpec.upto (s : _root_.Go.ChangeSpec) : _root_.Go.OpenSpec := { _root_.Go.OpenSpec.ofChange s with cond := some uptoSmall }

/-- 'spacecraftlaw15.ClcwEncodes', WHERE WHAT IT READS IS OF BULK AT MOST 1048576: true; the input reads as it did. -/
def clcwEncodesUptoRow : OpenClaim := { program := "ytmfiklofmjaldaa", sum := "e3f171f70677ca7d29b904c73a8bae433e8b1beda5baf66fa9fff43be5b0b844", func := "spacecraft/spacecraftlaw15.ClcwEncodes", spec := "clcwEncodes", apart := false, narrowed := true }
def ClcwEncodesUptoSaid : Prop := clcwEncodesUptoRow.holds Try.pinned (OpenSpec.upto clcwEncodesSpec)

/-- 'spacecraftlaw15.ClcwDecodes', WHERE WHAT IT READS IS OF BULK AT MOST 1048576: true; the input reads as it did. -/
def clcwDecodesUptoRow : OpenClaim := { program := "ytmfiklofmjaldaa", sum := "e3f171f70677ca7d29b904c73a8bae433e8b1beda5baf66fa9fff43be5b0b844", func := "spacecraft/spacecraftlaw15.ClcwDecodes", spec := "clcwDecodes", apart := false, narrowed := true }
def ClcwDecodesUptoSaid : Prop := clcwDecodesUptoRow.holds Try.pinned (OpenSpec.upto clcwDecodesSpec)

/-- 'spacecraftlaw15.ClcwBack', WHERE WHAT IT READS IS OF BULK AT MOST 1048576: true; the input reads as it did. -/
def clcwBackUptoRow : OpenClaim := { program := "ytmfiklofmjaldaa", sum := "e3f171f70677ca7d29b904c73a8bae433e8b1beda5baf66fa9fff43be5b0b844", func := "spacecraft/spacecraftlaw15.ClcwBack", spec := "clcwBack", apart := false, narrowed := true }
def ClcwBackUptoSaid : Prop := clcwBackUptoRow.holds Try.pinned (OpenSpec.upto clcwBackSpec)

/-- 'spacecraftlaw15.ClcwOnly', WHERE WHAT IT READS IS OF BULK AT MOST 1048576: true; the input reads as it did. -/
def clcwOnlyUptoRow : OpenClaim := { program := "ytmfiklofmjaldaa", sum := "e3f171f70677ca7d29b904c73a8bae433e8b1beda5baf66fa9fff43be5b0b844", func := "spacecraft/spacecraftlaw15.ClcwOnly", spec := "clcwOnly", apart := false, narrowed := true }
def ClcwOnlyUptoSaid : Prop := clcwOnlyUptoRow.holds Try.pinned (OpenSpec.upto clcwOnlySpec)

end Rows
end Go.Proofs.Ytmfiklofmjaldaa
