/-
  No cell of these rows narrows 'for every input' (looked for: loops, veiled, ifaces, maps, wideKeys, modest, calm, conditions, laid).
  DERIVED. THE GIVEN ROWS OF THIS SEAT. 4 by the template 'for every input the law returns true; each argument reads behind the call as it read before'; 0 by the template 'total and deterministic' (their statements: YtjjjlgaidklokaaTotals.lean).
  GIVEN WITH THE SEED: the statements are not yours to turn. If you find one false, say at which input.
  Laid BY PROGRAM, IN A SANDBOX (cutbox-rows.mjs): the forced cells as the released guide's own fill.sh prints them over the translation 982cbedcb7c81a0c… (all of the seat's roots in one cut). By AI agents, Wed Nov 11 2026. No macro, syntax, notation, axiom, sorry.
-/
import Derived.Test.YtjjjlgaidklokaaChecked
import GoSem.Claim
import GoSem.ClaimJoined
import GoSem.ClaimMapViews
import Derived.JoinedTies
import Derived.KernelRfl
namespace Go.Proofs.Ytjjjlgaidklokaa
/- THE CELL 'sum', in the pinned program and in every row, IS THE sha256 OF THE DUMP (.gsa) THAT YtjjjlgaidklokaaProg.lean LOADS. Nothing in Lean hashes anything: it is a label: what it is worth is what the hold of that sum in a sandbox is worth. -/
noncomputable def Try.pinned : Pinned := { name := "ytjjjlgaidklokaa", sum := "982cbedcb7c81a0caa9143f97865f037b607e0ea2cda532b274ca501e0378ae1", checked := Try.checked }
namespace Rows
def none {H : Type} : Left H := { results := [], args := [] }

/-- 'spacecraftlaw19.PackerPlays': WHATEVER THE INPUT: true; the input reads as it did. -/
def packerPlaysSpec : ChangeSpec := { name := "packerPlays", fn := fun _ => fun
  | [d1, d2, d3] => { results := [.lit (.bool true)], args := [d1, d2, d3] }
  | _ => none }
def packerPlaysRow : OpenClaim := { program := "ytjjjlgaidklokaa", sum := "982cbedcb7c81a0caa9143f97865f037b607e0ea2cda532b274ca501e0378ae1", func := "spacecraft/spacecraftlaw19.PackerPlays", spec := "packerPlays", apart := false }
def PackerPlaysSaid : Prop := packerPlaysRow.holds Try.pinned (OpenSpec.ofChange packerPlaysSpec)

/-- ITS FALSE NEIGHBOUR: 'it returns false'. Refute it at one input. -/
def packerPlaysWrong : ChangeSpec := { name := "packerPlays", fn := fun _ => fun
  | [d1, d2, d3] => { results := [.lit (.bool false)], args := [d1, d2, d3] }
  | _ => none }
def PackerPlaysWrongFalsely : Prop := packerPlaysRow.holds Try.pinned (OpenSpec.ofChange packerPlaysWrong)

/-- 'spacecraftlaw19.PackerKeeps': WHATEVER THE INPUT: true; the input reads as it did. -/
def packerKeepsSpec : ChangeSpec := { name := "packerKeeps", fn := fun _ => fun
  | [d1, d2] => { results := [.lit (.bool true)], args := [d1, d2] }
  | _ => none }
def packerKeepsRow : OpenClaim := { program := "ytjjjlgaidklokaa", sum := "982cbedcb7c81a0caa9143f97865f037b607e0ea2cda532b274ca501e0378ae1", func := "spacecraft/spacecraftlaw19.PackerKeeps", spec := "packerKeeps", apart := false }
def PackerKeepsSaid : Prop := packerKeepsRow.holds Try.pinned (OpenSpec.ofChange packerKeepsSpec)

/-- ITS FALSE NEIGHBOUR: 'it returns false'. Refute it at one input. -/
def packerKeepsWrong : ChangeSpec := { name := "packerKeeps", fn := fun _ => fun
  | [d1, d2] => { results := [.lit (.bool false)], args := [d1, d2] }
  | _ => none }
def PackerKeepsWrongFalsely : Prop := packerKeepsRow.holds Try.pinned (OpenSpec.ofChange packerKeepsWrong)

/-- 'spacecraftlaw19.PackerPoints': WHATEVER THE INPUT: true; the input reads as it did. -/
def packerPointsSpec : ChangeSpec := { name := "packerPoints", fn := fun _ => fun
  | [d1, d2] => { results := [.lit (.bool true)], args := [d1, d2] }
  | _ => none }
def packerPointsRow : OpenClaim := { program := "ytjjjlgaidklokaa", sum := "982cbedcb7c81a0caa9143f97865f037b607e0ea2cda532b274ca501e0378ae1", func := "spacecraft/spacecraftlaw19.PackerPoints", spec := "packerPoints", apart := false }
def PackerPointsSaid : Prop := packerPointsRow.holds Try.pinned (OpenSpec.ofChange packerPointsSpec)

/-- ITS FALSE NEIGHBOUR: 'it returns false'. Refute it at one input. -/
def packerPointsWrong : ChangeSpec := { name := "packerPoints", fn := fun _ => fun
  | [d1, d2] => { results := [.lit (.bool false)], args := [d1, d2] }
  | _ => none }
def PackerPointsWrongFalsely : Prop := packerPointsRow.holds Try.pinned (OpenSpec.ofChange packerPointsWrong)

/-- 'spacecraftlaw19.PackerFills': WHATEVER THE INPUT: true; the input reads as it did. -/
def packerFillsSpec : ChangeSpec := { name := "packerFills", fn := fun _ => fun
  | [d1, d2] => { results := [.lit (.bool true)], args := [d1, d2] }
  | _ => none }
def packerFillsRow : OpenClaim := { program := "ytjjjlgaidklokaa", sum := "982cbedcb7c81a0caa9143f97865f037b607e0ea2cda532b274ca501e0378ae1", func := "spacecraft/spacecraftlaw19.PackerFills", spec := "packerFills", apart := false }
def PackerFillsSaid : Prop := packerFillsRow.holds Try.pinned (OpenSpec.ofChange packerFillsSpec)

/-- ITS FALSE NEIGHBOUR: 'it returns false'. Refute it at one input. -/
def packerFillsWrong : ChangeSpec := { name := "packerFills", fn := fun _ => fun
  | [d1, d2] => { results := [.lit (.bool false)], args := [d1, d2] }
  | _ => none }
def PackerFillsWrongFalsely : Prop := packerFillsRow.holds Try.pinned (OpenSpec.ofChange packerFillsWrong)

/- THE SECOND FORM. 'bulk': how many values and letters a reading holds, each counted each time it is reached (what is shared counts as often as it is met; a slice's spare places count too). A statement '..UptoSaid' is the law's where the arguments, and the package variables that the reading takes, are together of bulk at most 1048576: NARROWER than '..Said'. Prove '..Said' where nothing that the law and all that it calls make is longer than what came in: it says more and counts as full. Else prove '..UptoSaid'. A law counts once. -/
mutual
def uptoBulk {H : Type} : DataW H → Nat
  | .lit (.string bytes) => bytes.length + 1
  | .lit _ => 1
  | .nil => 1
  | .ptr d => uptoBulk d + 1
  | .slice elems spare => uptoBulkAll elems + uptoBulkAll spare + 1
  | .agg parts => uptoBulkAll parts + 1
  | .iface _ d => uptoBulk d + 1
  | .map entries => uptoBulkEntries entries + 1
  | .held _ => 1
def uptoBulkAll {H : Type} : List (DataW H) → Nat
  | [] => 0
  | d :: r => uptoBulk d + uptoBulkAll r
def uptoBulkEntries {H : Type} : List (Lit × DataW H) → Nat
  | [] => 0
  | x :: r => uptoBulkEntry x + uptoBulkEntries r
def uptoBulkEntry {H : Type} : Lit × DataW H → Nat
  | (.string bytes, d) => bytes.length + uptoBulk d + 1
  | (_, d) => uptoBulk d + 1
 end
def uptoSmall : (H : Type) → List (DataW H) → Bool := fun _ ds => decide (uptoBulkAll ds ≤ 1048576)
def OpenSpec.upto (s : _root_.Go.ChangeSpec) : _root_.Go.OpenSpec := { _root_.Go.OpenSpec.ofChange s with cond := some uptoSmall }

/-- 'spacecraftlaw19.PackerPlays', WHERE WHAT IT READS IS OF BULK AT MOST 1048576: true; the input reads as it did. -/
def packerPlaysUptoRow : OpenClaim := { program := "ytjjjlgaidklokaa", sum := "982cbedcb7c81a0caa9143f97865f037b607e0ea2cda532b274ca501e0378ae1", func := "spacecraft/spacecraftlaw19.PackerPlays", spec := "packerPlays", apart := false, narrowed := true }
def PackerPlaysUptoSaid : Prop := packerPlaysUptoRow.holds Try.pinned (OpenSpec.upto packerPlaysSpec)

/-- 'spacecraftlaw19.PackerKeeps', WHERE WHAT IT READS IS OF BULK AT MOST 1048576: true; the input reads as it did. -/
def packerKeepsUptoRow : OpenClaim := { program := "ytjjjlgaidklokaa", sum := "982cbedcb7c81a0caa9143f97865f037b607e0ea2cda532b274ca501e0378ae1", func := "spacecraft/spacecraftlaw19.PackerKeeps", spec := "packerKeeps", apart := false, narrowed := true }
def PackerKeepsUptoSaid : Prop := packerKeepsUptoRow.holds Try.pinned (OpenSpec.upto packerKeepsSpec)

/-- 'spacecraftlaw19.PackerPoints', WHERE WHAT IT READS IS OF BULK AT MOST 1048576: true; the input reads as it did. -/
def packerPointsUptoRow : OpenClaim := { program := "ytjjjlgaidklokaa", sum := "982cbedcb7c81a0caa9143f97865f037b607e0ea2cda532b274ca501e0378ae1", func := "spacecraft/spacecraftlaw19.PackerPoints", spec := "packerPoints", apart := false, narrowed := true }
def PackerPointsUptoSaid : Prop := packerPointsUptoRow.holds Try.pinned (OpenSpec.upto packerPointsSpec)

/-- 'spacecraftlaw19.PackerFills', WHERE WHAT IT READS IS OF BULK AT MOST 1048576: true; the input reads as it did. -/
def packerFillsUptoRow : OpenClaim := { program := "ytjjjlgaidklokaa", sum := "982cbedcb7c81a0caa9143f97865f037b607e0ea2cda532b274ca501e0378ae1", func := "spacecraft/spacecraftlaw19.PackerFills", spec := "packerFills", apart := false, narrowed := true }
def PackerFillsUptoSaid : Prop := packerFillsUptoRow.holds Try.pinned (OpenSpec.upto packerFillsSpec)

end Rows
end Go.Proofs.Ytjjjlgaidklokaa
