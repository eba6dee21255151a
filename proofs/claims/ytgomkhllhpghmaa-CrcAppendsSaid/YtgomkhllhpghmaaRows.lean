/-
  No cell of these rows narrows 'for every input' (looked for: loops, veiled, ifaces, maps, wideKeys, modest, calm, conditions, laid).
  DERIVED. THE GIVEN ROWS OF THIS SEAT. 5 by the template 'for every input the law returns true; each argument reads behind the call as it read before'; 0 by the template 'total and deterministic' (their statements: YtgomkhllhpghmaaTotals.lean).
  GIVEN WITH THE SEED: the statements are not yours to turn. If you find one false, say at which input.
  Laid BY PROGRAM, IN A SANDBOX (cutbox-rows.mjs): the forced cells as the released guide's own fill.sh prints them over the translation f4ea07a8864d7518… (all of the seat's roots in one cut). By AI agents, Wed Nov 11 2026. No macro, syntax, notation, axiom, sorry.
-/
import Derived.Test.YtgomkhllhpghmaaChecked
import GoSem.Claim
import GoSem.ClaimJoined
import GoSem.ClaimMapViews
import Derived.JoinedTies
import Derived.KernelRfl
namespace Go.Proofs.Ytgomkhllhpghmaa
/- THE CELL 'sum', in the pinned program and in every row, IS THE sha256 OF THE DUMP (.gsa) THAT YtgomkhllhpghmaaProg.lean LOADS. Nothing in Lean hashes anything: it is a label: what it is worth is what the hold of that sum in a sandbox is worth. -/
noncomputable def Try.pinned : Pinned := { name := "ytgomkhllhpghmaa", sum := "f4ea07a8864d7518341aa243c84814763720bfb33264976614deb81ba985b50c", checked := Try.checked }
namespace Rows
def none {H : Type} : Left H := { results := [], args := [] }

/-- 'spacecraftlaw01.CrcSums': WHATEVER THE INPUT: true; the input reads as it did. -/
def crcSumsSpec : ChangeSpec := { name := "crcSums", fn := fun _ => fun
  | [d1, d2, d3] => { results := [.lit (.bool true)], args := [d1, d2, d3] }
  | _ => none }
def crcSumsRow : OpenClaim := { program := "ytgomkhllhpghmaa", sum := "f4ea07a8864d7518341aa243c84814763720bfb33264976614deb81ba985b50c", func := "spacecraft/spacecraftlaw01.CrcSums", spec := "crcSums", apart := false }
def CrcSumsSaid : Prop := crcSumsRow.holds Try.pinned (OpenSpec.ofChange crcSumsSpec)

/-- ITS FALSE NEIGHBOUR: 'it returns false'. Refute it at one input. -/
def crcSumsWrong : ChangeSpec := { name := "crcSums", fn := fun _ => fun
  | [d1, d2, d3] => { results := [.lit (.bool false)], args := [d1, d2, d3] }
  | _ => none }
def CrcSumsWrongFalsely : Prop := crcSumsRow.holds Try.pinned (OpenSpec.ofChange crcSumsWrong)

/-- 'spacecraftlaw01.CrcChecks': WHATEVER THE INPUT: true; the input reads as it did. -/
def crcChecksSpec : ChangeSpec := { name := "crcChecks", fn := fun _ => fun
  | [d] => { results := [.lit (.bool true)], args := [d] }
  | _ => none }
def crcChecksRow : OpenClaim := { program := "ytgomkhllhpghmaa", sum := "f4ea07a8864d7518341aa243c84814763720bfb33264976614deb81ba985b50c", func := "spacecraft/spacecraftlaw01.CrcChecks", spec := "crcChecks", apart := false }
def CrcChecksSaid : Prop := crcChecksRow.holds Try.pinned (OpenSpec.ofChange crcChecksSpec)

/-- ITS FALSE NEIGHBOUR: 'it returns false'. Refute it at one input. -/
def crcChecksWrong : ChangeSpec := { name := "crcChecks", fn := fun _ => fun
  | [d] => { results := [.lit (.bool false)], args := [d] }
  | _ => none }
def CrcChecksWrongFalsely : Prop := crcChecksRow.holds Try.pinned (OpenSpec.ofChange crcChecksWrong)

/-- 'spacecraftlaw01.CrcContinues': WHATEVER THE INPUT: true; the input reads as it did. -/
def crcContinuesSpec : ChangeSpec := { name := "crcContinues", fn := fun _ => fun
  | [d1, d2, d3, d4] => { results := [.lit (.bool true)], args := [d1, d2, d3, d4] }
  | _ => none }
def crcContinuesRow : OpenClaim := { program := "ytgomkhllhpghmaa", sum := "f4ea07a8864d7518341aa243c84814763720bfb33264976614deb81ba985b50c", func := "spacecraft/spacecraftlaw01.CrcContinues", spec := "crcContinues", apart := false }
def CrcContinuesSaid : Prop := crcContinuesRow.holds Try.pinned (OpenSpec.ofChange crcContinuesSpec)

/-- ITS FALSE NEIGHBOUR: 'it returns false'. Refute it at one input. -/
def crcContinuesWrong : ChangeSpec := { name := "crcContinues", fn := fun _ => fun
  | [d1, d2, d3, d4] => { results := [.lit (.bool false)], args := [d1, d2, d3, d4] }
  | _ => none }
def CrcContinuesWrongFalsely : Prop := crcContinuesRow.holds Try.pinned (OpenSpec.ofChange crcContinuesWrong)

/-- 'spacecraftlaw01.CrcAppends': WHATEVER THE INPUT: true; the input reads as it did. -/
def crcAppendsSpec : ChangeSpec := { name := "crcAppends", fn := fun _ => fun
  | [d1, d2, d3] => { results := [.lit (.bool true)], args := [d1, d2, d3] }
  | _ => none }
def crcAppendsRow : OpenClaim := { program := "ytgomkhllhpghmaa", sum := "f4ea07a8864d7518341aa243c84814763720bfb33264976614deb81ba985b50c", func := "spacecraft/spacecraftlaw01.CrcAppends", spec := "crcAppends", apart := false }
def CrcAppendsSaid : Prop := crcAppendsRow.holds Try.pinned (OpenSpec.ofChange crcAppendsSpec)

/-- ITS FALSE NEIGHBOUR: 'it returns false'. Refute it at one input. -/
def crcAppendsWrong : ChangeSpec := { name := "crcAppends", fn := fun _ => fun
  | [d1, d2, d3] => { results := [.lit (.bool false)], args := [d1, d2, d3] }
  | _ => none }
def CrcAppendsWrongFalsely : Prop := crcAppendsRow.holds Try.pinned (OpenSpec.ofChange crcAppendsWrong)

/-- 'spacecraftlaw01.CrcLinear': WHATEVER THE INPUT: true; the input reads as it did. -/
def crcLinearSpec : ChangeSpec := { name := "crcLinear", fn := fun _ => fun
  | [d1, d2, d3] => { results := [.lit (.bool true)], args := [d1, d2, d3] }
  | _ => none }
def crcLinearRow : OpenClaim := { program := "ytgomkhllhpghmaa", sum := "f4ea07a8864d7518341aa243c84814763720bfb33264976614deb81ba985b50c", func := "spacecraft/spacecraftlaw01.CrcLinear", spec := "crcLinear", apart := false }
def CrcLinearSaid : Prop := crcLinearRow.holds Try.pinned (OpenSpec.ofChange crcLinearSpec)

/-- ITS FALSE NEIGHBOUR: 'it returns false'. Refute it at one input. -/
def crcLinearWrong : ChangeSpec := { name := "crcLinear", fn := fun _ => fun
  | [d1, d2, d3] => { results := [.lit (.bool false)], args := [d1, d2, d3] }
  | _ => none }
def CrcLinearWrongFalsely : Prop := crcLinearRow.holds Try.pinned (OpenSpec.ofChange crcLinearWrong)

/- THE SECOND FORM. 'bulk': how many values and letters a reading holds, each counted each time it is reached (what is shared counts as often as it is met; a slice's spare places count too). A statement '..UptoSaid' is the law's where the arguments, and the package variables that the reading takes, are together of bulk at most 1048576: NARROWER than '..Said'. Prove '..Said' where nothing that the law and all that it calls make is longer than what came in: it says more and counts as full. Else prove '..UptoSaid'. A law counts once. -/
mutual
def uptoBulk {H : Type} : DataW H → Nat
  | .lit (.string bytes) => bytes.length + 1
  | .lit _ => 1
  | .nil => 1
  | .ptr d => uptoBulk d + 1
  | .slice elems spare => uptoBulkAll elems + uptoBulkAll spare + 1
  | .agg parts => uptoBulkAll parts + 1
  | .iface _ d => uptoBulk d + 1
  | .map entries => uptoBulkEntries entries + 1
  | .held _ => 1
def uptoBulkAll {H : Type} : List (DataW H) → Nat
  | [] => 0
  | d :: r => uptoBulk d + uptoBulkAll r
def uptoBulkEntries {H : Type} : List (Lit × DataW H) → Nat
  | [] => 0
  | x :: r => uptoBulkEntry x + uptoBulkEntries r
def uptoBulkEntry {H : Type} : Lit × DataW H → Nat
  | (.string bytes, d) => bytes.length + uptoBulk d + 1
  | (_, d) => uptoBulk d + 1
 end
def uptoSmall : (H : Type) → List (DataW H) → Bool := fun _ ds => decide (uptoBulkAll ds ≤ 1048576)
def OpenSpec.upto (s : _root_.Go.ChangeSpec) : _root_.Go.OpenSpec := { _root_.Go.OpenSpec.ofChange s with cond := some uptoSmall }

/-- 'spacecraftlaw01.CrcSums', WHERE WHAT IT READS IS OF BULK AT MOST 1048576: true; the input reads as it did. -/
def crcSumsUptoRow : OpenClaim := { program := "ytgomkhllhpghmaa", sum := "f4ea07a8864d7518341aa243c84814763720bfb33264976614deb81ba985b50c", func := "spacecraft/spacecraftlaw01.CrcSums", spec := "crcSums", apart := false, narrowed := true }
def CrcSumsUptoSaid : Prop := crcSumsUptoRow.holds Try.pinned (OpenSpec.upto crcSumsSpec)

/-- 'spacecraftlaw01.CrcChecks', WHERE WHAT IT READS IS OF BULK AT MOST 1048576: true; the input reads as it did. -/
def crcChecksUptoRow : OpenClaim := { program := "ytgomkhllhpghmaa", sum := "f4ea07a8864d7518341aa243c84814763720bfb33264976614deb81ba985b50c", func := "spacecraft/spacecraftlaw01.CrcChecks", spec := "crcChecks", apart := false, narrowed := true }
def CrcChecksUptoSaid : Prop := crcChecksUptoRow.holds Try.pinned (OpenSpec.upto crcChecksSpec)

/-- 'spacecraftlaw01.CrcContinues', WHERE WHAT IT READS IS OF BULK AT MOST 1048576: true; the input reads as it did. -/
def crcContinuesUptoRow : OpenClaim := { program := "ytgomkhllhpghmaa", sum := "f4ea07a8864d7518341aa243c84814763720bfb33264976614deb81ba985b50c", func := "spacecraft/spacecraftlaw01.CrcContinues", spec := "crcContinues", apart := false, narrowed := true }
def CrcContinuesUptoSaid : Prop := crcContinuesUptoRow.holds Try.pinned (OpenSpec.upto crcContinuesSpec)

/-- 'spacecraftlaw01.CrcAppends', WHERE WHAT IT READS IS OF BULK AT MOST 1048576: true; the input reads as it did. -/
def crcAppendsUptoRow : OpenClaim := { program := "ytgomkhllhpghmaa", sum := "f4ea07a8864d7518341aa243c84814763720bfb33264976614deb81ba985b50c", func := "spacecraft/spacecraftlaw01.CrcAppends", spec := "crcAppends", apart := false, narrowed := true }
def CrcAppendsUptoSaid : Prop := crcAppendsUptoRow.holds Try.pinned (OpenSpec.upto crcAppendsSpec)

/-- 'spacecraftlaw01.CrcLinear', WHERE WHAT IT READS IS OF BULK AT MOST 1048576: true; the input reads as it did. -/
def crcLinearUptoRow : OpenClaim := { program := "ytgomkhllhpghmaa", sum := "f4ea07a8864d7518341aa243c84814763720bfb33264976614deb81ba985b50c", func := "spacecraft/spacecraftlaw01.CrcLinear", spec := "crcLinear", apart := false, narrowed := true }
def CrcLinearUptoSaid : Prop := crcLinearUptoRow.holds Try.pinned (OpenSpec.upto crcLinearSpec)

end Rows
end Go.Proofs.Ytgomkhllhpghmaa
