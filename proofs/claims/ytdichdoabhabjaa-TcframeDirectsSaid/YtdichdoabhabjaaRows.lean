/-
  No cell of these rows narrows 'for every input' (looked for: loops, veiled, ifaces, maps, wideKeys, modest, calm, conditions, laid).
  DERIVED. THE GIVEN ROWS OF THIS SEAT. 5 by the template 'for every input the law returns true; each argument reads behind the call as it read before'; 0 by the template 'total and deterministic' (their statements: YtdichdoabhabjaaTotals.lean).
  GIVEN WITH THE SEED: the statements are not yours to turn. If you find one false, say at which input.
  Laid BY PROGRAM, IN A SANDBOX (cutbox-rows.mjs): the forced cells as the released guide's own fill.sh prints them over the translation 174607d0575e96ef… (all of the seat's roots in one cut). By AI agents, Wed Nov 11 2026. No macro, syntax, notation, axiom, sorry.
-/
import Derived.Test.YtdichdoabhabjaaChecked
import GoSem.Claim
import GoSem.ClaimJoined
import GoSem.ClaimMapViews
import Derived.JoinedTies
import Derived.KernelRfl
namespace Go.Proofs.Ytdichdoabhabjaa
/- THE CELL 'sum', in the pinned program and in every row, IS THE sha256 OF THE DUMP (.gsa) THAT YtdichdoabhabjaaProg.lean LOADS. Nothing in Lean hashes anything: it is a label: what it is worth is what the hold of that sum in a sandbox is worth. -/
noncomputable def Try.pinned : Pinned := { name := "ytdichdoabhabjaa", sum := "174607d0575e96ef8fa7451d1f3df401ffa427fd4784f381dba69f3ceec06e92", checked := Try.checked }
namespace Rows
def none {H : Type} : Left H := { results := [], args := [] }

/-- 'spacecraftlaw14.TcframeEncodes': WHATEVER THE INPUT: true; the input reads as it did. -/
def tcframeEncodesSpec : ChangeSpec := { name := "tcframeEncodes", fn := fun _ => fun
  | [d] => { results := [.lit (.bool true)], args := [d] }
  | _ => none }
def tcframeEncodesRow : OpenClaim := { program := "ytdichdoabhabjaa", sum := "174607d0575e96ef8fa7451d1f3df401ffa427fd4784f381dba69f3ceec06e92", func := "spacecraft/spacecraftlaw14.TcframeEncodes", spec := "tcframeEncodes", apart := false }
def TcframeEncodesSaid : Prop := tcframeEncodesRow.holds Try.pinned (OpenSpec.ofChange tcframeEncodesSpec)

/-- ITS FALSE NEIGHBOUR: 'it returns false'. Refute it at one input. -/
def tcframeEncodesWrong : ChangeSpec := { name := "tcframeEncodes", fn := fun _ => fun
  | [d] => { results := [.lit (.bool false)], args := [d] }
  | _ => none }
def TcframeEncodesWrongFalsely : Prop := tcframeEncodesRow.holds Try.pinned (OpenSpec.ofChange tcframeEncodesWrong)

/-- 'spacecraftlaw14.TcframeDecodes': WHATEVER THE INPUT: true; the input reads as it did. -/
def tcframeDecodesSpec : ChangeSpec := { name := "tcframeDecodes", fn := fun _ => fun
  | [d] => { results := [.lit (.bool true)], args := [d] }
  | _ => none }
def tcframeDecodesRow : OpenClaim := { program := "ytdichdoabhabjaa", sum := "174607d0575e96ef8fa7451d1f3df401ffa427fd4784f381dba69f3ceec06e92", func := "spacecraft/spacecraftlaw14.TcframeDecodes", spec := "tcframeDecodes", apart := false }
def TcframeDecodesSaid : Prop := tcframeDecodesRow.holds Try.pinned (OpenSpec.ofChange tcframeDecodesSpec)

/-- ITS FALSE NEIGHBOUR: 'it returns false'. Refute it at one input. -/
def tcframeDecodesWrong : ChangeSpec := { name := "tcframeDecodes", fn := fun _ => fun
  | [d] => { results := [.lit (.bool false)], args := [d] }
  | _ => none }
def TcframeDecodesWrongFalsely : Prop := tcframeDecodesRow.holds Try.pinned (OpenSpec.ofChange tcframeDecodesWrong)

/-- 'spacecraftlaw14.TcframeDirects': WHATEVER THE INPUT: true; the input reads as it did. -/
def tcframeDirectsSpec : ChangeSpec := { name := "tcframeDirects", fn := fun _ => fun
  | [d1, d2, d3] => { results := [.lit (.bool true)], args := [d1, d2, d3] }
  | _ => none }
def tcframeDirectsRow : OpenClaim := { program := "ytdichdoabhabjaa", sum := "174607d0575e96ef8fa7451d1f3df401ffa427fd4784f381dba69f3ceec06e92", func := "spacecraft/spacecraftlaw14.TcframeDirects", spec := "tcframeDirects", apart := false }
def TcframeDirectsSaid : Prop := tcframeDirectsRow.holds Try.pinned (OpenSpec.ofChange tcframeDirectsSpec)

/-- ITS FALSE NEIGHBOUR: 'it returns false'. Refute it at one input. -/
def tcframeDirectsWrong : ChangeSpec := { name := "tcframeDirects", fn := fun _ => fun
  | [d1, d2, d3] => { results := [.lit (.bool false)], args := [d1, d2, d3] }
  | _ => none }
def TcframeDirectsWrongFalsely : Prop := tcframeDirectsRow.holds Try.pinned (OpenSpec.ofChange tcframeDirectsWrong)

/-- 'spacecraftlaw14.TcframeBack': WHATEVER THE INPUT: true; the input reads as it did. -/
def tcframeBackSpec : ChangeSpec := { name := "tcframeBack", fn := fun _ => fun
  | [d1, d2, d3] => { results := [.lit (.bool true)], args := [d1, d2, d3] }
  | _ => none }
def tcframeBackRow : OpenClaim := { program := "ytdichdoabhabjaa", sum := "174607d0575e96ef8fa7451d1f3df401ffa427fd4784f381dba69f3ceec06e92", func := "spacecraft/spacecraftlaw14.TcframeBack", spec := "tcframeBack", apart := false }
def TcframeBackSaid : Prop := tcframeBackRow.holds Try.pinned (OpenSpec.ofChange tcframeBackSpec)

/-- ITS FALSE NEIGHBOUR: 'it returns false'. Refute it at one input. -/
def tcframeBackWrong : ChangeSpec := { name := "tcframeBack", fn := fun _ => fun
  | [d1, d2, d3] => { results := [.lit (.bool false)], args := [d1, d2, d3] }
  | _ => none }
def TcframeBackWrongFalsely : Prop := tcframeBackRow.holds Try.pinned (OpenSpec.ofChange tcframeBackWrong)

/-- 'spacecraftlaw14.TcframeOnly': WHATEVER THE INPUT: true; the input reads as it did. -/
def tcframeOnlySpec : ChangeSpec := { name := "tcframeOnly", fn := fun _ => fun
  | [d] => { results := [.lit (.bool true)], args := [d] }
  | _ => none }
def tcframeOnlyRow : OpenClaim := { program := "ytdichdoabhabjaa", sum := "174607d0575e96ef8fa7451d1f3df401ffa427fd4784f381dba69f3ceec06e92", func := "spacecraft/spacecraftlaw14.TcframeOnly", spec := "tcframeOnly", apart := false }
def TcframeOnlySaid : Prop := tcframeOnlyRow.holds Try.pinned (OpenSpec.ofChange tcframeOnlySpec)

/-- ITS FALSE NEIGHBOUR: 'it returns false'. Refute it at one input. -/
def tcframeOnlyWrong : ChangeSpec := { name := "tcframeOnly", fn := fun _ => fun
  | [d] => { results := [.lit (.bool false)], args := [d] }
  | _ => none }
def TcframeOnlyWrongFalsely : Prop := tcframeOnlyRow.holds Try.pinned (OpenSpec.ofChange tcframeOnlyWrong)

/- THE SECOND FORM. 'bulk': how many values and letters a reading holds, each counted each time it is reached (what is shared counts as often as it is met; a slice's spare places count too). A statement '..UptoSaid' is the law's where the arguments, and the package variables that the reading takes, are together of bulk at most 1048576: NARROWER than '..Said'. Prove '..Said' where nothing that the law and all that it calls make is longer than what came in: it says more and counts as full. Else prove '..UptoSaid'. A law counts once. -/
mutual
def uptoBulk {H : Type} : DataW H → Nat
  | .lit (.string bytes) => bytes.length + 1
  | .lit _ => 1
  | .nil => 1
  | .ptr d => uptoBulk d + 1
  | .slice elems spare => uptoBulkAll elems + uptoBulkAll spare + 1
  | .agg parts => uptoBulkAll parts + 1
  | .iface _ d => uptoBulk d + 1
  | .map entries => uptoBulkEntries entries + 1
  | .held _ => 1
def uptoBulkAll {H : Type} : List (DataW H) → Nat
  | [] => 0
  | d :: r => uptoBulk d + uptoBulkAll r
def uptoBulkEntries {H : Type} : List (Lit × DataW H) → Nat
  | [] => 0
  | x :: r => uptoBulkEntry x + uptoBulkEntries r
def uptoBulkEntry {H : Type} : Lit × DataW H → Nat
  | (.string bytes, d) => bytes.length + uptoBulk d + 1
  | (_, d) => uptoBulk d + 1
 end
def uptoSmall : (H : Type) → List (DataW H) → Bool := fun _ ds => decide (uptoBulkAll ds ≤ 1048576)
def OpenSpec.upto (s : _root_.Go.ChangeSpec) : _root_.Go.OpenSpec := { _root_.Go.OpenSpec.ofChange s with cond := some uptoSmall }

/-- 'spacecraftlaw14.TcframeEncodes', WHERE WHAT IT READS IS OF BULK AT MOST 1048576: true; the input reads as it did. -/
def tcframeEncodesUptoRow : OpenClaim := { program := "ytdichdoabhabjaa", sum := "174607d0575e96ef8fa7451d1f3df401ffa427fd4784f381dba69f3ceec06e92", func := "spacecraft/spacecraftlaw14.TcframeEncodes", spec := "tcframeEncodes", apart := false, narrowed := true }
def TcframeEncodesUptoSaid : Prop := tcframeEncodesUptoRow.holds Try.pinned (OpenSpec.upto tcframeEncodesSpec)

/-- 'spacecraftlaw14.TcframeDecodes', WHERE WHAT IT READS IS OF BULK AT MOST 1048576: true; the input reads as it did. -/
def tcframeDecodesUptoRow : OpenClaim := { program := "ytdichdoabhabjaa", sum := "174607d0575e96ef8fa7451d1f3df401ffa427fd4784f381dba69f3ceec06e92", func := "spacecraft/spacecraftlaw14.TcframeDecodes", spec := "tcframeDecodes", apart := false, narrowed := true }
def TcframeDecodesUptoSaid : Prop := tcframeDecodesUptoRow.holds Try.pinned (OpenSpec.upto tcframeDecodesSpec)

/-- 'spacecraftlaw14.TcframeDirects', WHERE WHAT IT READS IS OF BULK AT MOST 1048576: true; the input reads as it did. -/
def tcframeDirectsUptoRow : OpenClaim := { program := "ytdichdoabhabjaa", sum := "174607d0575e96ef8fa7451d1f3df401ffa427fd4784f381dba69f3ceec06e92", func := "spacecraft/spacecraftlaw14.TcframeDirects", spec := "tcframeDirects", apart := false, narrowed := true }
def TcframeDirectsUptoSaid : Prop := tcframeDirectsUptoRow.holds Try.pinned (OpenSpec.upto tcframeDirectsSpec)

/-- 'spacecraftlaw14.TcframeBack', WHERE WHAT IT READS IS OF BULK AT MOST 1048576: true; the input reads as it did. -/
def tcframeBackUptoRow : OpenClaim := { program := "ytdichdoabhabjaa", sum := "174607d0575e96ef8fa7451d1f3df401ffa427fd4784f381dba69f3ceec06e92", func := "spacecraft/spacecraftlaw14.TcframeBack", spec := "tcframeBack", apart := false, narrowed := true }
def TcframeBackUptoSaid : Prop := tcframeBackUptoRow.holds Try.pinned (OpenSpec.upto tcframeBackSpec)

/-- 'spacecraftlaw14.TcframeOnly', WHERE WHAT IT READS IS OF BULK AT MOST 1048576: true; the input reads as it did. -/
def tcframeOnlyUptoRow : OpenClaim := { program := "ytdichdoabhabjaa", sum := "174607d0575e96ef8fa7451d1f3df401ffa427fd4784f381dba69f3ceec06e92", func := "spacecraft/spacecraftlaw14.TcframeOnly", spec := "tcframeOnly", apart := false, narrowed := true }
def TcframeOnlyUptoSaid : Prop := tcframeOnlyUptoRow.holds Try.pinned (OpenSpec.upto tcframeOnlySpec)

end Rows
end Go.Proofs.Ytdichdoabhabjaa
