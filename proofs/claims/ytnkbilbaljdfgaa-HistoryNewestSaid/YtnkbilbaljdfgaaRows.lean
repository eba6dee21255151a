/-
  No cell of these rows narrows 'for every input' (looked for: loops, veiled, ifaces, maps, wideKeys, modest, calm, conditions, laid).
  DERIVED. THE GIVEN ROWS OF THIS SEAT. 4 by the template 'for every input the law returns true; each argument reads behind the call as it read before'; 0 by the template 'total and deterministic' (their statements: YtnkbilbaljdfgaaTotals.lean).
  GIVEN WITH THE SEED: the statements are not yours to turn. If you find one false, say at which input.
  Laid BY PROGRAM, IN A SANDBOX (cutbox-rows.mjs): the forced cells as the released guide's own fill.sh prints them over the translation 2d085963ee716a5f… (all of the seat's roots in one cut). By AI agents, Wed Nov 11 2026. No macro, syntax, notation, axiom, sorry.
-/
import Derived.Test.YtnkbilbaljdfgaaChecked
import GoSem.Claim
import GoSem.ClaimJoined
import GoSem.ClaimMapViews
import Derived.JoinedTies
import Derived.KernelRfl
namespace Go.Proofs.Ytnkbilbaljdfgaa
/- THE CELL 'sum', in the pinned program and in every row, IS THE sha256 OF THE DUMP (.gsa) THAT YtnkbilbaljdfgaaProg.lean LOADS. Nothing in Lean hashes anything: it is a label: what it is worth is what the hold of that sum in a sandbox is worth. -/
noncomputable def Try.pinned : Pinned := { name := "ytnkbilbaljdfgaa", sum := "2d085963ee716a5fc7715a3873a4657d144d3e7358e0d6cebe70962a40ee5400", checked := Try.checked }
namespace Rows
def none {H : Type} : Left H := { results := [], args := [] }

/-- 'spacecraftlaw09.HistoryPlays': WHATEVER THE INPUT: true; the input reads as it did. -/
def historyPlaysSpec : ChangeSpec := { name := "historyPlays", fn := fun _ => fun
  | [d1, d2] => { results := [.lit (.bool true)], args := [d1, d2] }
  | _ => none }
def historyPlaysRow : OpenClaim := { program := "ytnkbilbaljdfgaa", sum := "2d085963ee716a5fc7715a3873a4657d144d3e7358e0d6cebe70962a40ee5400", func := "spacecraft/spacecraftlaw09.HistoryPlays", spec := "historyPlays", apart := false }
def HistoryPlaysSaid : Prop := historyPlaysRow.holds Try.pinned (OpenSpec.ofChange historyPlaysSpec)

/-- ITS FALSE NEIGHBOUR: 'it returns false'. Refute it at one input. -/
def historyPlaysWrong : ChangeSpec := { name := "historyPlays", fn := fun _ => fun
  | [d1, d2] => { results := [.lit (.bool false)], args := [d1, d2] }
  | _ => none }
def HistoryPlaysWrongFalsely : Prop := historyPlaysRow.holds Try.pinned (OpenSpec.ofChange historyPlaysWrong)

/-- 'spacecraftlaw09.HistoryNewest': WHATEVER THE INPUT: true; the input reads as it did. -/
def historyNewestSpec : ChangeSpec := { name := "historyNewest", fn := fun _ => fun
  | [d1, d2] => { results := [.lit (.bool true)], args := [d1, d2] }
  | _ => none }
def historyNewestRow : OpenClaim := { program := "ytnkbilbaljdfgaa", sum := "2d085963ee716a5fc7715a3873a4657d144d3e7358e0d6cebe70962a40ee5400", func := "spacecraft/spacecraftlaw09.HistoryNewest", spec := "historyNewest", apart := false }
def HistoryNewestSaid : Prop := historyNewestRow.holds Try.pinned (OpenSpec.ofChange historyNewestSpec)

/-- ITS FALSE NEIGHBOUR: 'it returns false'. Refute it at one input. -/
def historyNewestWrong : ChangeSpec := { name := "historyNewest", fn := fun _ => fun
  | [d1, d2] => { results := [.lit (.bool false)], args := [d1, d2] }
  | _ => none }
def HistoryNewestWrongFalsely : Prop := historyNewestRow.holds Try.pinned (OpenSpec.ofChange historyNewestWrong)

/-- 'spacecraftlaw09.HistoryClones': WHATEVER THE INPUT: true; the input reads as it did. -/
def historyClonesSpec : ChangeSpec := { name := "historyClones", fn := fun _ => fun
  | [d1, d2, d3] => { results := [.lit (.bool true)], args := [d1, d2, d3] }
  | _ => none }
def historyClonesRow : OpenClaim := { program := "ytnkbilbaljdfgaa", sum := "2d085963ee716a5fc7715a3873a4657d144d3e7358e0d6cebe70962a40ee5400", func := "spacecraft/spacecraftlaw09.HistoryClones", spec := "historyClones", apart := false }
def HistoryClonesSaid : Prop := historyClonesRow.holds Try.pinned (OpenSpec.ofChange historyClonesSpec)

/-- ITS FALSE NEIGHBOUR: 'it returns false'. Refute it at one input. -/
def historyClonesWrong : ChangeSpec := { name := "historyClones", fn := fun _ => fun
  | [d1, d2, d3] => { results := [.lit (.bool false)], args := [d1, d2, d3] }
  | _ => none }
def HistoryClonesWrongFalsely : Prop := historyClonesRow.holds Try.pinned (OpenSpec.ofChange historyClonesWrong)

/-- 'spacecraftlaw09.HistoryNone': WHATEVER THE INPUT: true; the input reads as it did. -/
def historyNoneSpec : ChangeSpec := { name := "historyNone", fn := fun _ => fun
  | [d] => { results := [.lit (.bool true)], args := [d] }
  | _ => none }
def historyNoneRow : OpenClaim := { program := "ytnkbilbaljdfgaa", sum := "2d085963ee716a5fc7715a3873a4657d144d3e7358e0d6cebe70962a40ee5400", func := "spacecraft/spacecraftlaw09.HistoryNone", spec := "historyNone", apart := false }
def HistoryNoneSaid : Prop := historyNoneRow.holds Try.pinned (OpenSpec.ofChange historyNoneSpec)

/-- ITS FALSE NEIGHBOUR: 'it returns false'. Refute it at one input. -/
def historyNoneWrong : ChangeSpec := { name := "historyNone", fn := fun _ => fun
  | [d] => { results := [.lit (.bool false)], args := [d] }
  | _ => none }
def HistoryNoneWrongFalsely : Prop := historyNoneRow.holds Try.pinned (OpenSpec.ofChange historyNoneWrong)

/- THE SECOND FORM. 'bulk': how many values and letters a reading holds, each counted each time it is reached (what is shared counts as often as it is met; a slice's spare places count too). A statement '..UptoSaid' is the law's where the arguments, and the package variables that the reading takes, are together of bulk at most 1048576: NARROWER than '..Said'. Prove '..Said' where nothing that the law and all that it calls make is longer than what came in: it says more and counts as full. Else prove '..UptoSaid'. A law counts once. -/
mutual
def uptoBulk {H : Type} : DataW H → Nat
  | .lit (.string bytes) => bytes.length + 1
  | .lit _ => 1
  | .nil => 1
  | .ptr d => uptoBulk d + 1
  | .slice elems spare => uptoBulkAll elems + uptoBulkAll spare + 1
  | .agg parts => uptoBulkAll parts + 1
  | .iface _ d => uptoBulk d + 1
  | .map entries => uptoBulkEntries entries + 1
  | .held _ => 1
def uptoBulkAll {H : Type} : List (DataW H) → Nat
  | [] => 0
  | d :: r => uptoBulk d + uptoBulkAll r
def uptoBulkEntries {H : Type} : List (Lit × DataW H) → Nat
  | [] => 0
  | x :: r => uptoBulkEntry x + uptoBulkEntries r
def uptoBulkEntry {H : Type} : Lit × DataW H → Nat
  | (.string bytes, d) => bytes.length + uptoBulk d + 1
  | (_, d) => uptoBulk d + 1
 end
def uptoSmall : (H : Type) → List (DataW H) → Bool := fun _ ds => decide (uptoBulkAll ds ≤ 1048576)
def OpenSpec.upto (s : _root_.Go.ChangeSpec) : _root_.Go.OpenSpec := { _root_.Go.OpenSpec.ofChange s with cond := some uptoSmall }

/-- 'spacecraftlaw09.HistoryPlays', WHERE WHAT IT READS IS OF BULK AT MOST 1048576: true; the input reads as it did. -/
def historyPlaysUptoRow : OpenClaim := { program := "ytnkbilbaljdfgaa", sum := "2d085963ee716a5fc7715a3873a4657d144d3e7358e0d6cebe70962a40ee5400", func := "spacecraft/spacecraftlaw09.HistoryPlays", spec := "historyPlays", apart := false, narrowed := true }
def HistoryPlaysUptoSaid : Prop := historyPlaysUptoRow.holds Try.pinned (OpenSpec.upto historyPlaysSpec)

/-- 'spacecraftlaw09.HistoryNewest', WHERE WHAT IT READS IS OF BULK AT MOST 1048576: true; the input reads as it did. -/
def historyNewestUptoRow : OpenClaim := { program := "ytnkbilbaljdfgaa", sum := "2d085963ee716a5fc7715a3873a4657d144d3e7358e0d6cebe70962a40ee5400", func := "spacecraft/spacecraftlaw09.HistoryNewest", spec := "historyNewest", apart := false, narrowed := true }
def HistoryNewestUptoSaid : Prop := historyNewestUptoRow.holds Try.pinned (OpenSpec.upto historyNewestSpec)

/-- 'spacecraftlaw09.HistoryClones', WHERE WHAT IT READS IS OF BULK AT MOST 1048576: true; the input reads as it did. -/
def historyClonesUptoRow : OpenClaim := { program := "ytnkbilbaljdfgaa", sum := "2d085963ee716a5fc7715a3873a4657d144d3e7358e0d6cebe70962a40ee5400", func := "spacecraft/spacecraftlaw09.HistoryClones", spec := "historyClones", apart := false, narrowed := true }
def HistoryClonesUptoSaid : Prop := historyClonesUptoRow.holds Try.pinned (OpenSpec.upto historyClonesSpec)

/-- 'spacecraftlaw09.HistoryNone', WHERE WHAT IT READS IS OF BULK AT MOST 1048576: true; the input reads as it did. -/
def historyNoneUptoRow : OpenClaim := { program := "ytnkbilbaljdfgaa", sum := "2d085963ee716a5fc7715a3873a4657d144d3e7358e0d6cebe70962a40ee5400", func := "spacecraft/spacecraftlaw09.HistoryNone", spec := "historyNone", apart := false, narrowed := true }
def HistoryNoneUptoSaid : Prop := historyNoneUptoRow.holds Try.pinned (OpenSpec.upto historyNoneSpec)

end Rows
end Go.Proofs.Ytnkbilbaljdfgaa
