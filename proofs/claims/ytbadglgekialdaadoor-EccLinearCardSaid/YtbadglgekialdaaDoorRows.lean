/-
  NARROWER THAN 'FOR EVERY INPUT', by the rows' own cells (each row's printed sentence says how): EccCodes: laid · EccDecodes: laid · EccFlips: laid · EccCorrects: laid · EccDistance: laid · EccLinear: laid.
  DERIVED. THE GIVEN ROWS OF THIS SEAT. 6 by the template 'for every input the law returns true; each argument reads behind the call as it read before'; 0 by the template 'total and deterministic' (their statements: YtbadglgekialdaaDoorTotals.lean).
  GIVEN WITH THE SEED: the statements are not yours to turn. If you find one false, say at which input.
  Laid BY PROGRAM, IN A SANDBOX (cutbox-rows.mjs): the forced cells as the released guide's own fill.sh prints them over the translation 0ffc13fe2cd5b3a9… (all of the seat's roots in one cut). By AI agents, Wed Nov 11 2026. No macro, syntax, notation, axiom, sorry.
-/
import Derived.Test.YtbadglgekialdaaDoorChecked
import GoSem.Claim
import GoSem.ClaimJoined
import GoSem.ClaimMapViews
import Derived.JoinedTies
import Derived.KernelRfl
namespace Go.Proofs.YtbadglgekialdaaDoor
/- THE CELL 'sum', in the pinned program and in every row, IS THE sha256 OF THE DUMP (.gsa) THAT YtbadglgekialdaaDoorProg.lean LOADS. Nothing in Lean hashes anything: it is a label: what it is worth is what the hold of that sum in a sandbox is worth. -/
noncomputable def Tryd.pinned : Pinned := { name := "ytbadglgekialdaadoor", sum := "0ffc13fe2cd5b3a9d3b3bbed3dc4dfbf5fced21cb7abe3157e3902fc509feeaa", checked := Tryd.checked }
namespace Rows
def none {H : Type} : Left H := { results := [], args := [] }

/- WHAT THE LISTED PACKAGE-LEVEL VARIABLES READ AS WHEN THE CALL BEGINS. Each datum BY PROGRAM (the guide's laid-datum.mjs) off the statement by which the dump's own 'gosem.cut.vars' lays the variable. In a bare row this is a premise. The card (YtbadglgekialdaaDoorCards.lean) ties it to the program's text. -/
def laid_math_bits_deBruijn64tab {H : Type} : DataW H := .agg [.lit (.int .u8 0), .lit (.int .u8 1), .lit (.int .u8 56), .lit (.int .u8 2), .lit (.int .u8 57), .lit (.int .u8 49), .lit (.int .u8 28), .lit (.int .u8 3), .lit (.int .u8 61), .lit (.int .u8 58), .lit (.int .u8 42), .lit (.int .u8 50), .lit (.int .u8 38), .lit (.int .u8 29), .lit (.int .u8 17), .lit (.int .u8 4), .lit (.int .u8 62), .lit (.int .u8 47), .lit (.int .u8 59), .lit (.int .u8 36), .lit (.int .u8 45), .lit (.int .u8 43), .lit (.int .u8 51), .lit (.int .u8 22), .lit (.int .u8 53), .lit (.int .u8 39), .lit (.int .u8 33), .lit (.int .u8 30), .lit (.int .u8 24), .lit (.int .u8 18), .lit (.int .u8 12), .lit (.int .u8 5), .lit (.int .u8 63), .lit (.int .u8 55), .lit (.int .u8 48), .lit (.int .u8 27), .lit (.int .u8 60), .lit (.int .u8 41), .lit (.int .u8 37), .lit (.int .u8 16), .lit (.int .u8 46), .lit (.int .u8 35), .lit (.int .u8 44), .lit (.int .u8 21), .lit (.int .u8 52), .lit (.int .u8 32), .lit (.int .u8 23), .lit (.int .u8 11), .lit (.int .u8 54), .lit (.int .u8 26), .lit (.int .u8 40), .lit (.int .u8 15), .lit (.int .u8 34), .lit (.int .u8 20), .lit (.int .u8 31), .lit (.int .u8 10), .lit (.int .u8 25), .lit (.int .u8 14), .lit (.int .u8 19), .lit (.int .u8 9), .lit (.int .u8 13), .lit (.int .u8 8), .lit (.int .u8 7), .lit (.int .u8 6)]
def laid_spacecraft_ecc_runs {H : Type} : DataW H := .agg [.lit (.int .u64 8), .lit (.int .u64 224), .lit (.int .u64 65024), .lit (.int .u64 4294836224), .lit (.int .u64 541165879296)]

/-- 'spacecraftlaw06.EccCodes': WHATEVER THE INPUT: true; the input reads as it did. -/
def eccCodesSpec : ChangeSpec := { name := "eccCodes", fn := fun _ => fun
  | [d] => { results := [.lit (.bool true)], args := [d] }
  | _ => none }
def eccCodesRow : OpenClaim := { program := "ytbadglgekialdaadoor", sum := "0ffc13fe2cd5b3a9d3b3bbed3dc4dfbf5fced21cb7abe3157e3902fc509feeaa", func := "spacecraft/spacecraftlaw06.EccCodes", spec := "eccCodes", named := ["spacecraft/ecc.runs", "math/bits.deBruijn64tab"], apart := false, laid := [("math/bits.deBruijn64tab", laid_math_bits_deBruijn64tab), ("spacecraft/ecc.runs", laid_spacecraft_ecc_runs)] }
def EccCodesSaid : Prop := eccCodesRow.holds Tryd.pinned (OpenSpec.ofChange eccCodesSpec)

/-- ITS FALSE NEIGHBOUR: 'it returns false'. Refute it at one input. -/
def eccCodesWrong : ChangeSpec := { name := "eccCodes", fn := fun _ => fun
  | [d] => { results := [.lit (.bool false)], args := [d] }
  | _ => none }
def EccCodesWrongFalsely : Prop := eccCodesRow.holds Tryd.pinned (OpenSpec.ofChange eccCodesWrong)

/-- 'spacecraftlaw06.EccDecodes': WHATEVER THE INPUT: true; the input reads as it did. -/
def eccDecodesSpec : ChangeSpec := { name := "eccDecodes", fn := fun _ => fun
  | [d] => { results := [.lit (.bool true)], args := [d] }
  | _ => none }
def eccDecodesRow : OpenClaim := { program := "ytbadglgekialdaadoor", sum := "0ffc13fe2cd5b3a9d3b3bbed3dc4dfbf5fced21cb7abe3157e3902fc509feeaa", func := "spacecraft/spacecraftlaw06.EccDecodes", spec := "eccDecodes", named := ["math/bits.deBruijn64tab", "spacecraft/ecc.runs"], apart := false, laid := [("math/bits.deBruijn64tab", laid_math_bits_deBruijn64tab), ("spacecraft/ecc.runs", laid_spacecraft_ecc_runs)] }
def EccDecodesSaid : Prop := eccDecodesRow.holds Tryd.pinned (OpenSpec.ofChange eccDecodesSpec)

/-- ITS FALSE NEIGHBOUR: 'it returns false'. Refute it at one input. -/
def eccDecodesWrong : ChangeSpec := { name := "eccDecodes", fn := fun _ => fun
  | [d] => { results := [.lit (.bool false)], args := [d] }
  | _ => none }
def EccDecodesWrongFalsely : Prop := eccDecodesRow.holds Tryd.pinned (OpenSpec.ofChange eccDecodesWrong)

/-- 'spacecraftlaw06.EccFlips': WHATEVER THE INPUT: true; the input reads as it did. -/
def eccFlipsSpec : ChangeSpec := { name := "eccFlips", fn := fun _ => fun
  | [d1, d2] => { results := [.lit (.bool true)], args := [d1, d2] }
  | _ => none }
def eccFlipsRow : OpenClaim := { program := "ytbadglgekialdaadoor", sum := "0ffc13fe2cd5b3a9d3b3bbed3dc4dfbf5fced21cb7abe3157e3902fc509feeaa", func := "spacecraft/spacecraftlaw06.EccFlips", spec := "eccFlips", named := ["math/bits.deBruijn64tab", "spacecraft/ecc.runs"], apart := false, laid := [("math/bits.deBruijn64tab", laid_math_bits_deBruijn64tab), ("spacecraft/ecc.runs", laid_spacecraft_ecc_runs)] }
def EccFlipsSaid : Prop := eccFlipsRow.holds Tryd.pinned (OpenSpec.ofChange eccFlipsSpec)

/-- ITS FALSE NEIGHBOUR: 'it returns false'. Refute it at one input. -/
def eccFlipsWrong : ChangeSpec := { name := "eccFlips", fn := fun _ => fun
  | [d1, d2] => { results := [.lit (.bool false)], args := [d1, d2] }
  | _ => none }
def EccFlipsWrongFalsely : Prop := eccFlipsRow.holds Tryd.pinned (OpenSpec.ofChange eccFlipsWrong)

/-- 'spacecraftlaw06.EccCorrects': WHATEVER THE INPUT: true; the input reads as it did. -/
def eccCorrectsSpec : ChangeSpec := { name := "eccCorrects", fn := fun _ => fun
  | [d1, d2, d3] => { results := [.lit (.bool true)], args := [d1, d2, d3] }
  | _ => none }
def eccCorrectsRow : OpenClaim := { program := "ytbadglgekialdaadoor", sum := "0ffc13fe2cd5b3a9d3b3bbed3dc4dfbf5fced21cb7abe3157e3902fc509feeaa", func := "spacecraft/spacecraftlaw06.EccCorrects", spec := "eccCorrects", named := ["spacecraft/ecc.runs", "math/bits.deBruijn64tab"], apart := false, laid := [("math/bits.deBruijn64tab", laid_math_bits_deBruijn64tab), ("spacecraft/ecc.runs", laid_spacecraft_ecc_runs)] }
def EccCorrectsSaid : Prop := eccCorrectsRow.holds Tryd.pinned (OpenSpec.ofChange eccCorrectsSpec)

/-- ITS FALSE NEIGHBOUR: 'it returns false'. Refute it at one input. -/
def eccCorrectsWrong : ChangeSpec := { name := "eccCorrects", fn := fun _ => fun
  | [d1, d2, d3] => { results := [.lit (.bool false)], args := [d1, d2, d3] }
  | _ => none }
def EccCorrectsWrongFalsely : Prop := eccCorrectsRow.holds Tryd.pinned (OpenSpec.ofChange eccCorrectsWrong)

/-- 'spacecraftlaw06.EccDistance': WHATEVER THE INPUT: true; the input reads as it did. -/
def eccDistanceSpec : ChangeSpec := { name := "eccDistance", fn := fun _ => fun
  | [d1, d2] => { results := [.lit (.bool true)], args := [d1, d2] }
  | _ => none }
def eccDistanceRow : OpenClaim := { program := "ytbadglgekialdaadoor", sum := "0ffc13fe2cd5b3a9d3b3bbed3dc4dfbf5fced21cb7abe3157e3902fc509feeaa", func := "spacecraft/spacecraftlaw06.EccDistance", spec := "eccDistance", named := ["spacecraft/ecc.runs", "math/bits.deBruijn64tab"], apart := false, laid := [("math/bits.deBruijn64tab", laid_math_bits_deBruijn64tab), ("spacecraft/ecc.runs", laid_spacecraft_ecc_runs)] }
def EccDistanceSaid : Prop := eccDistanceRow.holds Tryd.pinned (OpenSpec.ofChange eccDistanceSpec)

/-- ITS FALSE NEIGHBOUR: 'it returns false'. Refute it at one input. -/
def eccDistanceWrong : ChangeSpec := { name := "eccDistance", fn := fun _ => fun
  | [d1, d2] => { results := [.lit (.bool false)], args := [d1, d2] }
  | _ => none }
def EccDistanceWrongFalsely : Prop := eccDistanceRow.holds Tryd.pinned (OpenSpec.ofChange eccDistanceWrong)

/-- 'spacecraftlaw06.EccLinear': WHATEVER THE INPUT: true; the input reads as it did. -/
def eccLinearSpec : ChangeSpec := { name := "eccLinear", fn := fun _ => fun
  | [d1, d2] => { results := [.lit (.bool true)], args := [d1, d2] }
  | _ => none }
def eccLinearRow : OpenClaim := { program := "ytbadglgekialdaadoor", sum := "0ffc13fe2cd5b3a9d3b3bbed3dc4dfbf5fced21cb7abe3157e3902fc509feeaa", func := "spacecraft/spacecraftlaw06.EccLinear", spec := "eccLinear", named := ["spacecraft/ecc.runs", "math/bits.deBruijn64tab"], apart := false, laid := [("math/bits.deBruijn64tab", laid_math_bits_deBruijn64tab), ("spacecraft/ecc.runs", laid_spacecraft_ecc_runs)] }
def EccLinearSaid : Prop := eccLinearRow.holds Tryd.pinned (OpenSpec.ofChange eccLinearSpec)

/-- ITS FALSE NEIGHBOUR: 'it returns false'. Refute it at one input. -/
def eccLinearWrong : ChangeSpec := { name := "eccLinear", fn := fun _ => fun
  | [d1, d2] => { results := [.lit (.bool false)], args := [d1, d2] }
  | _ => none }
def EccLinearWrongFalsely : Prop := eccLinearRow.holds Tryd.pinned (OpenSpec.ofChange eccLinearWrong)

/- THE SECOND FORM. 'bulk': how many values and letters a reading holds, each counted each time it is reached (what is shared counts as often as it is met; a slice's spare places count too). A statement '..UptoSaid' is the law's where the arguments, and the package variables that the reading takes, are together of bulk at most 1048576: NARROWER than '..Said'. Prove '..Said' where nothing that the law and all that it calls make is longer than what came in: it says more and counts as full. Else prove '..UptoSaid'. A law counts once. -/
mutual
def uptoBulk {H : Type} : DataW H → Nat
  | .lit (.string bytes) => bytes.length + 1
  | .lit _ => 1
  | .nil => 1
  | .ptr d => uptoBulk d + 1
  | .slice elems spare => uptoBulkAll elems + uptoBulkAll spare + 1
  | .agg parts => uptoBulkAll parts + 1
  | .iface _ d => uptoBulk d + 1
  | .map entries => uptoBulkEntries entries + 1
  | .held _ => 1
def uptoBulkAll {H : Type} : List (DataW H) → Nat
  | [] => 0
  | d :: r => uptoBulk d + uptoBulkAll r
def uptoBulkEntries {H : Type} : List (Lit × DataW H) → Nat
  | [] => 0
  | x :: r => uptoBulkEntry x + uptoBulkEntries r
def uptoBulkEntry {H : Type} : Lit × DataW H → Nat
  | (.string bytes, d) => bytes.length + uptoBulk d + 1
  | (_, d) => uptoBulk d + 1
 end
def uptoSmall : (H : Type) → List (DataW H) → Bool := fun _ ds => decide (uptoBulkAll ds ≤ 1048576)
def OpenSpec.upto (s : _root_.Go.ChangeSpec) : _root_.Go.OpenSpec := { _root_.Go.OpenSpec.ofChange s with cond := some uptoSmall }

/-- 'spacecraftlaw06.EccCodes', WHERE WHAT IT READS IS OF BULK AT MOST 1048576: true; the input reads as it did. -/
def eccCodesUptoRow : OpenClaim := { program := "ytbadglgekialdaadoor", sum := "0ffc13fe2cd5b3a9d3b3bbed3dc4dfbf5fced21cb7abe3157e3902fc509feeaa", func := "spacecraft/spacecraftlaw06.EccCodes", spec := "eccCodes", named := ["spacecraft/ecc.runs", "math/bits.deBruijn64tab"], apart := false, laid := [("math/bits.deBruijn64tab", laid_math_bits_deBruijn64tab), ("spacecraft/ecc.runs", laid_spacecraft_ecc_runs)], narrowed := true }
def EccCodesUptoSaid : Prop := eccCodesUptoRow.holds Tryd.pinned (OpenSpec.upto eccCodesSpec)

/-- 'spacecraftlaw06.EccDecodes', WHERE WHAT IT READS IS OF BULK AT MOST 1048576: true; the input reads as it did. -/
def eccDecodesUptoRow : OpenClaim := { program := "ytbadglgekialdaadoor", sum := "0ffc13fe2cd5b3a9d3b3bbed3dc4dfbf5fced21cb7abe3157e3902fc509feeaa", func := "spacecraft/spacecraftlaw06.EccDecodes", spec := "eccDecodes", named := ["math/bits.deBruijn64tab", "spacecraft/ecc.runs"], apart := false, laid := [("math/bits.deBruijn64tab", laid_math_bits_deBruijn64tab), ("spacecraft/ecc.runs", laid_spacecraft_ecc_runs)], narrowed := true }
def EccDecodesUptoSaid : Prop := eccDecodesUptoRow.holds Tryd.pinned (OpenSpec.upto eccDecodesSpec)

/-- 'spacecraftlaw06.EccFlips', WHERE WHAT IT READS IS OF BULK AT MOST 1048576: true; the input reads as it did. -/
def eccFlipsUptoRow : OpenClaim := { program := "ytbadglgekialdaadoor", sum := "0ffc13fe2cd5b3a9d3b3bbed3dc4dfbf5fced21cb7abe3157e3902fc509feeaa", func := "spacecraft/spacecraftlaw06.EccFlips", spec := "eccFlips", named := ["math/bits.deBruijn64tab", "spacecraft/ecc.runs"], apart := false, laid := [("math/bits.deBruijn64tab", laid_math_bits_deBruijn64tab), ("spacecraft/ecc.runs", laid_spacecraft_ecc_runs)], narrowed := true }
def EccFlipsUptoSaid : Prop := eccFlipsUptoRow.holds Tryd.pinned (OpenSpec.upto eccFlipsSpec)

/-- 'spacecraftlaw06.EccCorrects', WHERE WHAT IT READS IS OF BULK AT MOST 1048576: true; the input reads as it did. -/
def eccCorrectsUptoRow : OpenClaim := { program := "ytbadglgekialdaadoor", sum := "0ffc13fe2cd5b3a9d3b3bbed3dc4dfbf5fced21cb7abe3157e3902fc509feeaa", func := "spacecraft/spacecraftlaw06.EccCorrects", spec := "eccCorrects", named := ["spacecraft/ecc.runs", "math/bits.deBruijn64tab"], apart := false, laid := [("math/bits.deBruijn64tab", laid_math_bits_deBruijn64tab), ("spacecraft/ecc.runs", laid_spacecraft_ecc_runs)], narrowed := true }
def EccCorrectsUptoSaid : Prop := eccCorrectsUptoRow.holds Tryd.pinned (OpenSpec.upto eccCorrectsSpec)

/-- 'spacecraftlaw06.EccDistance', WHERE WHAT IT READS IS OF BULK AT MOST 1048576: true; the input reads as it did. -/
def eccDistanceUptoRow : OpenClaim := { program := "ytbadglgekialdaadoor", sum := "0ffc13fe2cd5b3a9d3b3bbed3dc4dfbf5fced21cb7abe3157e3902fc509feeaa", func := "spacecraft/spacecraftlaw06.EccDistance", spec := "eccDistance", named := ["spacecraft/ecc.runs", "math/bits.deBruijn64tab"], apart := false, laid := [("math/bits.deBruijn64tab", laid_math_bits_deBruijn64tab), ("spacecraft/ecc.runs", laid_spacecraft_ecc_runs)], narrowed := true }
def EccDistanceUptoSaid : Prop := eccDistanceUptoRow.holds Tryd.pinned (OpenSpec.upto eccDistanceSpec)

/-- 'spacecraftlaw06.EccLinear', WHERE WHAT IT READS IS OF BULK AT MOST 1048576: true; the input reads as it did. -/
def eccLinearUptoRow : OpenClaim := { program := "ytbadglgekialdaadoor", sum := "0ffc13fe2cd5b3a9d3b3bbed3dc4dfbf5fced21cb7abe3157e3902fc509feeaa", func := "spacecraft/spacecraftlaw06.EccLinear", spec := "eccLinear", named := ["spacecraft/ecc.runs", "math/bits.deBruijn64tab"], apart := false, laid := [("math/bits.deBruijn64tab", laid_math_bits_deBruijn64tab), ("spacecraft/ecc.runs", laid_spacecraft_ecc_runs)], narrowed := true }
def EccLinearUptoSaid : Prop := eccLinearUptoRow.holds Tryd.pinned (OpenSpec.upto eccLinearSpec)

end Rows
end Go.Proofs.YtbadglgekialdaaDoor
