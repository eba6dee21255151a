/-
  No cell of these rows narrows 'for every input' (looked for: loops, veiled, ifaces, maps, wideKeys, modest, calm, conditions, laid).
  DERIVED. THE GIVEN ROWS OF THIS SEAT. 4 by the template 'for every input the law returns true; each argument reads behind the call as it read before'; 0 by the template 'total and deterministic' (their statements: YtpfhbojodapomaaTotals.lean).
  GIVEN WITH THE SEED: the statements are not yours to turn. If you find one false, say at which input.
  Laid BY PROGRAM, IN A SANDBOX (cutbox-rows.mjs): the forced cells as the released guide's own fill.sh prints them over the translation 32df546345ce1ac6… (all of the seat's roots in one cut). By AI agents, Wed Nov 11 2026. No macro, syntax, notation, axiom, sorry.
-/
import Derived.Test.YtpfhbojodapomaaChecked
import GoSem.Claim
import GoSem.ClaimJoined
import GoSem.ClaimMapViews
import Derived.JoinedTies
import Derived.KernelRfl
namespace Go.Proofs.Ytpfhbojodapomaa
/- THE CELL 'sum', in the pinned program and in every row, IS THE sha256 OF THE DUMP (.gsa) THAT YtpfhbojodapomaaProg.lean LOADS. Nothing in Lean hashes anything: it is a label: what it is worth is what the hold of that sum in a sandbox is worth. -/
noncomputable def Try.pinned : Pinned := { name := "ytpfhbojodapomaa", sum := "32df546345ce1ac61b544d46c8b17271e7bef0ae1c4fd5eb717a723712c4d10d", checked := Try.checked }
namespace Rows
def none {H : Type} : Left H := { results := [], args := [] }

/-- 'spacecraftlaw22.MuxMakes': WHATEVER THE INPUT: true; the input reads as it did. -/
def muxMakesSpec : ChangeSpec := { name := "muxMakes", fn := fun _ => fun
  | [d] => { results := [.lit (.bool true)], args := [d] }
  | _ => none }
def muxMakesRow : OpenClaim := { program := "ytpfhbojodapomaa", sum := "32df546345ce1ac61b544d46c8b17271e7bef0ae1c4fd5eb717a723712c4d10d", func := "spacecraft/spacecraftlaw22.MuxMakes", spec := "muxMakes", unfollowed := true, recurses := true, apart := false }
def MuxMakesSaid : Prop := muxMakesRow.holds Try.pinned (OpenSpec.ofChange muxMakesSpec)

/-- ITS FALSE NEIGHBOUR: 'it returns false'. Refute it at one input. -/
def muxMakesWrong : ChangeSpec := { name := "muxMakes", fn := fun _ => fun
  | [d] => { results := [.lit (.bool false)], args := [d] }
  | _ => none }
def MuxMakesWrongFalsely : Prop := muxMakesRow.holds Try.pinned (OpenSpec.ofChange muxMakesWrong)

/-- 'spacecraftlaw22.MuxSelects': WHATEVER THE INPUT: true; the input reads as it did. -/
def muxSelectsSpec : ChangeSpec := { name := "muxSelects", fn := fun _ => fun
  | [d1, d2] => { results := [.lit (.bool true)], args := [d1, d2] }
  | _ => none }
def muxSelectsRow : OpenClaim := { program := "ytpfhbojodapomaa", sum := "32df546345ce1ac61b544d46c8b17271e7bef0ae1c4fd5eb717a723712c4d10d", func := "spacecraft/spacecraftlaw22.MuxSelects", spec := "muxSelects", unfollowed := true, recurses := true, apart := false }
def MuxSelectsSaid : Prop := muxSelectsRow.holds Try.pinned (OpenSpec.ofChange muxSelectsSpec)

/-- ITS FALSE NEIGHBOUR: 'it returns false'. Refute it at one input. -/
def muxSelectsWrong : ChangeSpec := { name := "muxSelects", fn := fun _ => fun
  | [d1, d2] => { results := [.lit (.bool false)], args := [d1, d2] }
  | _ => none }
def MuxSelectsWrongFalsely : Prop := muxSelectsRow.holds Try.pinned (OpenSpec.ofChange muxSelectsWrong)

/-- 'spacecraftlaw22.MuxShares': WHATEVER THE INPUT: true; the input reads as it did. -/
def muxSharesSpec : ChangeSpec := { name := "muxShares", fn := fun _ => fun
  | [d1, d2] => { results := [.lit (.bool true)], args := [d1, d2] }
  | _ => none }
def muxSharesRow : OpenClaim := { program := "ytpfhbojodapomaa", sum := "32df546345ce1ac61b544d46c8b17271e7bef0ae1c4fd5eb717a723712c4d10d", func := "spacecraft/spacecraftlaw22.MuxShares", spec := "muxShares", unfollowed := true, recurses := true, apart := false }
def MuxSharesSaid : Prop := muxSharesRow.holds Try.pinned (OpenSpec.ofChange muxSharesSpec)

/-- ITS FALSE NEIGHBOUR: 'it returns false'. Refute it at one input. -/
def muxSharesWrong : ChangeSpec := { name := "muxShares", fn := fun _ => fun
  | [d1, d2] => { results := [.lit (.bool false)], args := [d1, d2] }
  | _ => none }
def MuxSharesWrongFalsely : Prop := muxSharesRow.holds Try.pinned (OpenSpec.ofChange muxSharesWrong)

/-- 'spacecraftlaw22.MuxPrefers': WHATEVER THE INPUT: true; the input reads as it did. -/
def muxPrefersSpec : ChangeSpec := { name := "muxPrefers", fn := fun _ => fun
  | [d1, d2] => { results := [.lit (.bool true)], args := [d1, d2] }
  | _ => none }
def muxPrefersRow : OpenClaim := { program := "ytpfhbojodapomaa", sum := "32df546345ce1ac61b544d46c8b17271e7bef0ae1c4fd5eb717a723712c4d10d", func := "spacecraft/spacecraftlaw22.MuxPrefers", spec := "muxPrefers", unfollowed := true, recurses := true, apart := false }
def MuxPrefersSaid : Prop := muxPrefersRow.holds Try.pinned (OpenSpec.ofChange muxPrefersSpec)

/-- ITS FALSE NEIGHBOUR: 'it returns false'. Refute it at one input. -/
def muxPrefersWrong : ChangeSpec := { name := "muxPrefers", fn := fun _ => fun
  | [d1, d2] => { results := [.lit (.bool false)], args := [d1, d2] }
  | _ => none }
def MuxPrefersWrongFalsely : Prop := muxPrefersRow.holds Try.pinned (OpenSpec.ofChange muxPrefersWrong)

/- THE SECOND FORM. 'bulk': how many values and letters a reading holds, each counted each time it is reached (what is shared counts as often as it is met; a slice's spare places count too). A statement '..UptoSaid' is the law's where the arguments, and the package variables that the reading takes, are together of bulk at most 1048576: NARROWER than '..Said'. Prove '..Said' where nothing that the law and all that it calls make is longer than what came in: it says more and counts as full. Else prove '..UptoSaid'. A law counts once. -/
mutual
def uptoBulk {H : Type} : DataW H → Nat
  | .lit (.string bytes) => bytes.length + 1
  | .lit _ => 1
  | .nil => 1
  | .ptr d => uptoBulk d + 1
  | .slice elems spare => uptoBulkAll elems + uptoBulkAll spare + 1
  | .agg parts => uptoBulkAll parts + 1
  | .iface _ d => uptoBulk d + 1
  | .map entries => uptoBulkEntries entries + 1
  | .held _ => 1
def uptoBulkAll {H : Type} : List (DataW H) → Nat
  | [] => 0
  | d :: r => uptoBulk d + uptoBulkAll r
def uptoBulkEntries {H : Type} : List (Lit × DataW H) → Nat
  | [] => 0
  | x :: r => uptoBulkEntry x + uptoBulkEntries r
def uptoBulkEntry {H : Type} : Lit × DataW H → Nat
  | (.string bytes, d) => bytes.length + uptoBulk d + 1
  | (_, d) => uptoBulk d + 1
 end
def uptoSmall : (H : Type) → List (DataW H) → Bool := fun _ ds => decide (uptoBulkAll ds ≤ 1048576)
def OpenSpec.upto (s : _root_.Go.ChangeSpec) : _root_.Go.OpenSpec := { _root_.Go.OpenSpec.ofChange s with cond := some uptoSmall }

/-- 'spacecraftlaw22.MuxMakes', WHERE WHAT IT READS IS OF BULK AT MOST 1048576: true; the input reads as it did. -/
def muxMakesUptoRow : OpenClaim := { program := "ytpfhbojodapomaa", sum := "32df546345ce1ac61b544d46c8b17271e7bef0ae1c4fd5eb717a723712c4d10d", func := "spacecraft/spacecraftlaw22.MuxMakes", spec := "muxMakes", unfollowed := true, recurses := true, apart := false, narrowed := true }
def MuxMakesUptoSaid : Prop := muxMakesUptoRow.holds Try.pinned (OpenSpec.upto muxMakesSpec)

/-- 'spacecraftlaw22.MuxSelects', WHERE WHAT IT READS IS OF BULK AT MOST 1048576: true; the input reads as it did. -/
def muxSelectsUptoRow : OpenClaim := { program := "ytpfhbojodapomaa", sum := "32df546345ce1ac61b544d46c8b17271e7bef0ae1c4fd5eb717a723712c4d10d", func := "spacecraft/spacecraftlaw22.MuxSelects", spec := "muxSelects", unfollowed := true, recurses := true, apart := false, narrowed := true }
def MuxSelectsUptoSaid : Prop := muxSelectsUptoRow.holds Try.pinned (OpenSpec.upto muxSelectsSpec)

/-- 'spacecraftlaw22.MuxShares', WHERE WHAT IT READS IS OF BULK AT MOST 1048576: true; the input reads as it did. -/
def muxSharesUptoRow : OpenClaim := { program := "ytpfhbojodapomaa", sum := "32df546345ce1ac61b544d46c8b17271e7bef0ae1c4fd5eb717a723712c4d10d", func := "spacecraft/spacecraftlaw22.MuxShares", spec := "muxShares", unfollowed := true, recurses := true, apart := false, narrowed := true }
def MuxSharesUptoSaid : Prop := muxSharesUptoRow.holds Try.pinned (OpenSpec.upto muxSharesSpec)

/-- 'spacecraftlaw22.MuxPrefers', WHERE WHAT IT READS IS OF BULK AT MOST 1048576: true; the input reads as it did. -/
def muxPrefersUptoRow : OpenClaim := { program := "ytpfhbojodapomaa", sum := "32df546345ce1ac61b544d46c8b17271e7bef0ae1c4fd5eb717a723712c4d10d", func := "spacecraft/spacecraftlaw22.MuxPrefers", spec := "muxPrefers", unfollowed := true, recurses := true, apart := false, narrowed := true }
def MuxPrefersUptoSaid : Prop := muxPrefersUptoRow.holds Try.pinned (OpenSpec.upto muxPrefersSpec)

end Rows
end Go.Proofs.Ytpfhbojodapomaa
