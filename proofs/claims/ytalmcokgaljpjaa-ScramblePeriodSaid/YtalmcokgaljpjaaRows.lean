/-
  No cell of these rows narrows 'for every input' (looked for: loops, veiled, ifaces, maps, wideKeys, modest, calm, conditions, laid).
  DERIVED. THE GIVEN ROWS OF THIS SEAT. 4 by the template 'for every input the law returns true; each argument reads behind the call as it read before'; 0 by the template 'total and deterministic' (their statements: YtalmcokgaljpjaaTotals.lean).
  GIVEN WITH THE SEED: the statements are not yours to turn. If you find one false, say at which input.
  Laid BY PROGRAM, IN A SANDBOX (cutbox-rows.mjs): the forced cells as the released guide's own fill.sh prints them over the translation 1560a6ec69e13a7a… (all of the seat's roots in one cut). By AI agents, Wed Nov 11 2026. No macro, syntax, notation, axiom, sorry.
-/
import Derived.Test.YtalmcokgaljpjaaChecked
import GoSem.Claim
import GoSem.ClaimJoined
import GoSem.ClaimMapViews
import Derived.JoinedTies
import Derived.KernelRfl
namespace Go.Proofs.Ytalmcokgaljpjaa
/- THE CELL 'sum', in the pinned program and in every row, IS THE sha256 OF THE DUMP (.gsa) THAT YtalmcokgaljpjaaProg.lean LOADS. Nothing in Lean hashes anything: it is a label: what it is worth is what the hold of that sum in a sandbox is worth. -/
noncomputable def Try.pinned : Pinned := { name := "ytalmcokgaljpjaa", sum := "1560a6ec69e13a7ae83bbcad2882229c581774054a5526a33b580872274000ef", checked := Try.checked }
namespace Rows
def none {H : Type} : Left H := { results := [], args := [] }

/-- 'spacecraftlaw12.ScrambleSequence': WHATEVER THE INPUT: true; the input reads as it did. -/
def scrambleSequenceSpec : ChangeSpec := { name := "scrambleSequence", fn := fun _ => fun
  | [d] => { results := [.lit (.bool true)], args := [d] }
  | _ => none }
def scrambleSequenceRow : OpenClaim := { program := "ytalmcokgaljpjaa", sum := "1560a6ec69e13a7ae83bbcad2882229c581774054a5526a33b580872274000ef", func := "spacecraft/spacecraftlaw12.ScrambleSequence", spec := "scrambleSequence", unfollowed := true, recurses := true, apart := false }
def ScrambleSequenceSaid : Prop := scrambleSequenceRow.holds Try.pinned (OpenSpec.ofChange scrambleSequenceSpec)

/-- ITS FALSE NEIGHBOUR: 'it returns false'. Refute it at one input. -/
def scrambleSequenceWrong : ChangeSpec := { name := "scrambleSequence", fn := fun _ => fun
  | [d] => { results := [.lit (.bool false)], args := [d] }
  | _ => none }
def ScrambleSequenceWrongFalsely : Prop := scrambleSequenceRow.holds Try.pinned (OpenSpec.ofChange scrambleSequenceWrong)

/-- 'spacecraftlaw12.ScrambleApplies': WHATEVER THE INPUT: true; the input reads as it did. -/
def scrambleAppliesSpec : ChangeSpec := { name := "scrambleApplies", fn := fun _ => fun
  | [d] => { results := [.lit (.bool true)], args := [d] }
  | _ => none }
def scrambleAppliesRow : OpenClaim := { program := "ytalmcokgaljpjaa", sum := "1560a6ec69e13a7ae83bbcad2882229c581774054a5526a33b580872274000ef", func := "spacecraft/spacecraftlaw12.ScrambleApplies", spec := "scrambleApplies", unfollowed := true, recurses := true, apart := false }
def ScrambleAppliesSaid : Prop := scrambleAppliesRow.holds Try.pinned (OpenSpec.ofChange scrambleAppliesSpec)

/-- ITS FALSE NEIGHBOUR: 'it returns false'. Refute it at one input. -/
def scrambleAppliesWrong : ChangeSpec := { name := "scrambleApplies", fn := fun _ => fun
  | [d] => { results := [.lit (.bool false)], args := [d] }
  | _ => none }
def ScrambleAppliesWrongFalsely : Prop := scrambleAppliesRow.holds Try.pinned (OpenSpec.ofChange scrambleAppliesWrong)

/-- 'spacecraftlaw12.ScrambleBack': WHATEVER THE INPUT: true; the input reads as it did. -/
def scrambleBackSpec : ChangeSpec := { name := "scrambleBack", fn := fun _ => fun
  | [d] => { results := [.lit (.bool true)], args := [d] }
  | _ => none }
def scrambleBackRow : OpenClaim := { program := "ytalmcokgaljpjaa", sum := "1560a6ec69e13a7ae83bbcad2882229c581774054a5526a33b580872274000ef", func := "spacecraft/spacecraftlaw12.ScrambleBack", spec := "scrambleBack", unfollowed := true, recurses := true, apart := false }
def ScrambleBackSaid : Prop := scrambleBackRow.holds Try.pinned (OpenSpec.ofChange scrambleBackSpec)

/-- ITS FALSE NEIGHBOUR: 'it returns false'. Refute it at one input. -/
def scrambleBackWrong : ChangeSpec := { name := "scrambleBack", fn := fun _ => fun
  | [d] => { results := [.lit (.bool false)], args := [d] }
  | _ => none }
def ScrambleBackWrongFalsely : Prop := scrambleBackRow.holds Try.pinned (OpenSpec.ofChange scrambleBackWrong)

/-- 'spacecraftlaw12.ScramblePeriod': WHATEVER THE INPUT: true; the input reads as it did. -/
def scramblePeriodSpec : ChangeSpec := { name := "scramblePeriod", fn := fun _ => fun
  | [d1, d2] => { results := [.lit (.bool true)], args := [d1, d2] }
  | _ => none }
def scramblePeriodRow : OpenClaim := { program := "ytalmcokgaljpjaa", sum := "1560a6ec69e13a7ae83bbcad2882229c581774054a5526a33b580872274000ef", func := "spacecraft/spacecraftlaw12.ScramblePeriod", spec := "scramblePeriod", unfollowed := true, recurses := true, apart := false }
def ScramblePeriodSaid : Prop := scramblePeriodRow.holds Try.pinned (OpenSpec.ofChange scramblePeriodSpec)

/-- ITS FALSE NEIGHBOUR: 'it returns false'. Refute it at one input. -/
def scramblePeriodWrong : ChangeSpec := { name := "scramblePeriod", fn := fun _ => fun
  | [d1, d2] => { results := [.lit (.bool false)], args := [d1, d2] }
  | _ => none }
def ScramblePeriodWrongFalsely : Prop := scramblePeriodRow.holds Try.pinned (OpenSpec.ofChange scramblePeriodWrong)

/- THE SECOND FORM. 'bulk': how many values and letters a reading holds, each counted each time it is reached (what is shared counts as often as it is met; a slice's spare places count too). A statement '..UptoSaid' is the law's where the arguments, and the package variables that the reading takes, are together of bulk at most 1048576: NARROWER than '..Said'. Prove '..Said' where nothing that the law and all that it calls make is longer than what came in: it says more and counts as full. Else prove '..UptoSaid'. A law counts once. -/
mutual
def uptoBulk {H : Type} : DataW H → Nat
  | .lit (.string bytes) => bytes.length + 1
  | .lit _ => 1
  | .nil => 1
  | .ptr d => uptoBulk d + 1
  | .slice elems spare => uptoBulkAll elems + uptoBulkAll spare + 1
  | .agg parts => uptoBulkAll parts + 1
  | .iface _ d => uptoBulk d + 1
  | .map entries => uptoBulkEntries entries + 1
  | .held _ => 1
def uptoBulkAll {H : Type} : List (DataW H) → Nat
  | [] => 0
  | d :: r => uptoBulk d + uptoBulkAll r
def uptoBulkEntries {H : Type} : List (Lit × DataW H) → Nat
  | [] => 0
  | x :: r => uptoBulkEntry x + uptoBulkEntries r
def uptoBulkEntry {H : Type} : Lit × DataW H → Nat
  | (.string bytes, d) => bytes.length + uptoBulk d + 1
  | (_, d) => uptoBulk d + 1
 end
def uptoSmall : (H : Type) → List (DataW H) → Bool := fun _ ds => decide (uptoBulkAll ds ≤ 1048576)
def OpenSpec.upto (s : _root_.Go.ChangeSpec) : _root_.Go.OpenSpec := { _root_.Go.OpenSpec.ofChange s with cond := some uptoSmall }

/-- 'spacecraftlaw12.ScrambleSequence', WHERE WHAT IT READS IS OF BULK AT MOST 1048576: true; the input reads as it did. -/
def scrambleSequenceUptoRow : OpenClaim := { program := "ytalmcokgaljpjaa", sum := "1560a6ec69e13a7ae83bbcad2882229c581774054a5526a33b580872274000ef", func := "spacecraft/spacecraftlaw12.ScrambleSequence", spec := "scrambleSequence", unfollowed := true, recurses := true, apart := false, narrowed := true }
def ScrambleSequenceUptoSaid : Prop := scrambleSequenceUptoRow.holds Try.pinned (OpenSpec.upto scrambleSequenceSpec)

/-- 'spacecraftlaw12.ScrambleApplies', WHERE WHAT IT READS IS OF BULK AT MOST 1048576: true; the input reads as it did. -/
def scrambleAppliesUptoRow : OpenClaim := { program := "ytalmcokgaljpjaa", sum := "1560a6ec69e13a7ae83bbcad2882229c581774054a5526a33b580872274000ef", func := "spacecraft/spacecraftlaw12.ScrambleApplies", spec := "scrambleApplies", unfollowed := true, recurses := true, apart := false, narrowed := true }
def ScrambleAppliesUptoSaid : Prop := scrambleAppliesUptoRow.holds Try.pinned (OpenSpec.upto scrambleAppliesSpec)

/-- 'spacecraftlaw12.ScrambleBack', WHERE WHAT IT READS IS OF BULK AT MOST 1048576: true; the input reads as it did. -/
def scrambleBackUptoRow : OpenClaim := { program := "ytalmcokgaljpjaa", sum := "1560a6ec69e13a7ae83bbcad2882229c581774054a5526a33b580872274000ef", func := "spacecraft/spacecraftlaw12.ScrambleBack", spec := "scrambleBack", unfollowed := true, recurses := true, apart := false, narrowed := true }
def ScrambleBackUptoSaid : Prop := scrambleBackUptoRow.holds Try.pinned (OpenSpec.upto scrambleBackSpec)

/-- 'spacecraftlaw12.ScramblePeriod', WHERE WHAT IT READS IS OF BULK AT MOST 1048576: true; the input reads as it did. -/
def scramblePeriodUptoRow : OpenClaim := { program := "ytalmcokgaljpjaa", sum := "1560a6ec69e13a7ae83bbcad2882229c581774054a5526a33b580872274000ef", func := "spacecraft/spacecraftlaw12.ScramblePeriod", spec := "scramblePeriod", unfollowed := true, recurses := true, apart := false, narrowed := true }
def ScramblePeriodUptoSaid : Prop := scramblePeriodUptoRow.holds Try.pinned (OpenSpec.upto scramblePeriodSpec)

end Rows
end Go.Proofs.Ytalmcokgaljpjaa
