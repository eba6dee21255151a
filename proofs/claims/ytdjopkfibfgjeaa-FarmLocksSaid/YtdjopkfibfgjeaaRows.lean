/-
  No cell of these rows narrows 'for every input' (looked for: loops, veiled, ifaces, maps, wideKeys, modest, calm, conditions, laid).
  DERIVED. THE GIVEN ROWS OF THIS SEAT. 4 by the template 'for every input the law returns true; each argument reads behind the call as it read before'; 0 by the template 'total and deterministic' (their statements: YtdjopkfibfgjeaaTotals.lean).
  GIVEN WITH THE SEED: the statements are not yours to turn. If you find one false, say at which input.
  Laid BY PROGRAM, IN A SANDBOX (cutbox-rows.mjs): the forced cells as the released guide's own fill.sh prints them over the translation f4af249b263e5528… (all of the seat's roots in one cut). By AI agents, Wed Nov 11 2026. No macro, syntax, notation, axiom, sorry.
-/
import Derived.Test.YtdjopkfibfgjeaaChecked
import GoSem.Claim
import GoSem.ClaimJoined
import GoSem.ClaimMapViews
import Derived.JoinedTies
import Derived.KernelRfl
namespace Go.Proofs.Ytdjopkfibfgjeaa
/- THE CELL 'sum', in the pinned program and in every row, IS THE sha256 OF THE DUMP (.gsa) THAT YtdjopkfibfgjeaaProg.lean LOADS. Nothing in Lean hashes anything: it is a label: what it is worth is what the hold of that sum in a sandbox is worth. -/
noncomputable def Try.pinned : Pinned := { name := "ytdjopkfibfgjeaa", sum := "f4af249b263e5528752cf322637f94597de402308b999130d20bfd6deb473851", checked := Try.checked }
namespace Rows
def none {H : Type} : Left H := { results := [], args := [] }

/-- 'spacecraftlaw16.FarmTakes': WHATEVER THE INPUT: true; the input reads as it did. -/
def farmTakesSpec : ChangeSpec := { name := "farmTakes", fn := fun _ => fun
  | [d1, d2] => { results := [.lit (.bool true)], args := [d1, d2] }
  | _ => none }
def farmTakesRow : OpenClaim := { program := "ytdjopkfibfgjeaa", sum := "f4af249b263e5528752cf322637f94597de402308b999130d20bfd6deb473851", func := "spacecraft/spacecraftlaw16.FarmTakes", spec := "farmTakes", apart := false }
def FarmTakesSaid : Prop := farmTakesRow.holds Try.pinned (OpenSpec.ofChange farmTakesSpec)

/-- ITS FALSE NEIGHBOUR: 'it returns false'. Refute it at one input. -/
def farmTakesWrong : ChangeSpec := { name := "farmTakes", fn := fun _ => fun
  | [d1, d2] => { results := [.lit (.bool false)], args := [d1, d2] }
  | _ => none }
def FarmTakesWrongFalsely : Prop := farmTakesRow.holds Try.pinned (OpenSpec.ofChange farmTakesWrong)

/-- 'spacecraftlaw16.FarmOrders': WHATEVER THE INPUT: true; the input reads as it did. -/
def farmOrdersSpec : ChangeSpec := { name := "farmOrders", fn := fun _ => fun
  | [d1, d2, d3] => { results := [.lit (.bool true)], args := [d1, d2, d3] }
  | _ => none }
def farmOrdersRow : OpenClaim := { program := "ytdjopkfibfgjeaa", sum := "f4af249b263e5528752cf322637f94597de402308b999130d20bfd6deb473851", func := "spacecraft/spacecraftlaw16.FarmOrders", spec := "farmOrders", apart := false }
def FarmOrdersSaid : Prop := farmOrdersRow.holds Try.pinned (OpenSpec.ofChange farmOrdersSpec)

/-- ITS FALSE NEIGHBOUR: 'it returns false'. Refute it at one input. -/
def farmOrdersWrong : ChangeSpec := { name := "farmOrders", fn := fun _ => fun
  | [d1, d2, d3] => { results := [.lit (.bool false)], args := [d1, d2, d3] }
  | _ => none }
def FarmOrdersWrongFalsely : Prop := farmOrdersRow.holds Try.pinned (OpenSpec.ofChange farmOrdersWrong)

/-- 'spacecraftlaw16.FarmLocks': WHATEVER THE INPUT: true; the input reads as it did. -/
def farmLocksSpec : ChangeSpec := { name := "farmLocks", fn := fun _ => fun
  | [d1, d2] => { results := [.lit (.bool true)], args := [d1, d2] }
  | _ => none }
def farmLocksRow : OpenClaim := { program := "ytdjopkfibfgjeaa", sum := "f4af249b263e5528752cf322637f94597de402308b999130d20bfd6deb473851", func := "spacecraft/spacecraftlaw16.FarmLocks", spec := "farmLocks", apart := false }
def FarmLocksSaid : Prop := farmLocksRow.holds Try.pinned (OpenSpec.ofChange farmLocksSpec)

/-- ITS FALSE NEIGHBOUR: 'it returns false'. Refute it at one input. -/
def farmLocksWrong : ChangeSpec := { name := "farmLocks", fn := fun _ => fun
  | [d1, d2] => { results := [.lit (.bool false)], args := [d1, d2] }
  | _ => none }
def FarmLocksWrongFalsely : Prop := farmLocksRow.holds Try.pinned (OpenSpec.ofChange farmLocksWrong)

/-- 'spacecraftlaw16.FarmBypasses': WHATEVER THE INPUT: true; the input reads as it did. -/
def farmBypassesSpec : ChangeSpec := { name := "farmBypasses", fn := fun _ => fun
  | [d] => { results := [.lit (.bool true)], args := [d] }
  | _ => none }
def farmBypassesRow : OpenClaim := { program := "ytdjopkfibfgjeaa", sum := "f4af249b263e5528752cf322637f94597de402308b999130d20bfd6deb473851", func := "spacecraft/spacecraftlaw16.FarmBypasses", spec := "farmBypasses", apart := false }
def FarmBypassesSaid : Prop := farmBypassesRow.holds Try.pinned (OpenSpec.ofChange farmBypassesSpec)

/-- ITS FALSE NEIGHBOUR: 'it returns false'. Refute it at one input. -/
def farmBypassesWrong : ChangeSpec := { name := "farmBypasses", fn := fun _ => fun
  | [d] => { results := [.lit (.bool false)], args := [d] }
  | _ => none }
def FarmBypassesWrongFalsely : Prop := farmBypassesRow.holds Try.pinned (OpenSpec.ofChange farmBypassesWrong)

/- THE SECOND FORM. 'bulk': how many values and letters a reading holds, each counted each time it is reached (what is shared counts as often as it is met; a slice's spare places count too). A statement '..UptoSaid' is the law's where the arguments, and the package variables that the reading takes, are together of bulk at most 1048576: NARROWER than '..Said'. Prove '..Said' where nothing that the law and all that it calls make is longer than what came in: it says more and counts as full. Else prove '..UptoSaid'. A law counts once. -/
mutual
def uptoBulk {H : Type} : DataW H → Nat
  | .lit (.string bytes) => bytes.length + 1
  | .lit _ => 1
  | .nil => 1
  | .ptr d => uptoBulk d + 1
  | .slice elems spare => uptoBulkAll elems + uptoBulkAll spare + 1
  | .agg parts => uptoBulkAll parts + 1
  | .iface _ d => uptoBulk d + 1
  | .map entries => uptoBulkEntries entries + 1
  | .held _ => 1
def uptoBulkAll {H : Type} : List (DataW H) → Nat
  | [] => 0
  | d :: r => uptoBulk d + uptoBulkAll r
def uptoBulkEntries {H : Type} : List (Lit × DataW H) → Nat
  | [] => 0
  | x :: r => uptoBulkEntry x + uptoBulkEntries r
def uptoBulkEntry {H : Type} : Lit × DataW H → Nat
  | (.string bytes, d) => bytes.length + uptoBulk d + 1
  | (_, d) => uptoBulk d + 1
 end
def uptoSmall : (H : Type) → List (DataW H) → Bool := fun _ ds => decide (uptoBulkAll ds ≤ 1048576)
def OpenSpec.upto (s : _root_.Go.ChangeSpec) : _root_.Go.OpenSpec := { _root_.Go.OpenSpec.ofChange s with cond := some uptoSmall }

/-- 'spacecraftlaw16.FarmTakes', WHERE WHAT IT READS IS OF BULK AT MOST 1048576: true; the input reads as it did. -/
def farmTakesUptoRow : OpenClaim := { program := "ytdjopkfibfgjeaa", sum := "f4af249b263e5528752cf322637f94597de402308b999130d20bfd6deb473851", func := "spacecraft/spacecraftlaw16.FarmTakes", spec := "farmTakes", apart := false, narrowed := true }
def FarmTakesUptoSaid : Prop := farmTakesUptoRow.holds Try.pinned (OpenSpec.upto farmTakesSpec)

/-- 'spacecraftlaw16.FarmOrders', WHERE WHAT IT READS IS OF BULK AT MOST 1048576: true; the input reads as it did. -/
def farmOrdersUptoRow : OpenClaim := { program := "ytdjopkfibfgjeaa", sum := "f4af249b263e5528752cf322637f94597de402308b999130d20bfd6deb473851", func := "spacecraft/spacecraftlaw16.FarmOrders", spec := "farmOrders", apart := false, narrowed := true }
def FarmOrdersUptoSaid : Prop := farmOrdersUptoRow.holds Try.pinned (OpenSpec.upto farmOrdersSpec)

/-- 'spacecraftlaw16.FarmLocks', WHERE WHAT IT READS IS OF BULK AT MOST 1048576: true; the input reads as it did. -/
def farmLocksUptoRow : OpenClaim := { program := "ytdjopkfibfgjeaa", sum := "f4af249b263e5528752cf322637f94597de402308b999130d20bfd6deb473851", func := "spacecraft/spacecraftlaw16.FarmLocks", spec := "farmLocks", apart := false, narrowed := true }
def FarmLocksUptoSaid : Prop := farmLocksUptoRow.holds Try.pinned (OpenSpec.upto farmLocksSpec)

/-- 'spacecraftlaw16.FarmBypasses', WHERE WHAT IT READS IS OF BULK AT MOST 1048576: true; the input reads as it did. -/
def farmBypassesUptoRow : OpenClaim := { program := "ytdjopkfibfgjeaa", sum := "f4af249b263e5528752cf322637f94597de402308b999130d20bfd6deb473851", func := "spacecraft/spacecraftlaw16.FarmBypasses", spec := "farmBypasses", apart := false, narrowed := true }
def FarmBypassesUptoSaid : Prop := farmBypassesUptoRow.holds Try.pinned (OpenSpec.upto farmBypassesSpec)

end Rows
end Go.Proofs.Ytdjopkfibfgjeaa
