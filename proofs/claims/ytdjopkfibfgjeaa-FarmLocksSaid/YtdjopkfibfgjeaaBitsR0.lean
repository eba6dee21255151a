/-
  The walks of the small functions of package bits' Reader: works, Left, Failed, NewReader, Skip; a nil Reader and a zero value.
-/
import Derived.Test.YtdjopkfibfgjeaaBitsW0
import Derived.Deep.DeepCutAuto
import Derived.Deep.LoopGhost
namespace Go.Proofs.Ytdjopkfibfgjeaa
open Go.RowKit

section
variable {w w' : World} {base g : Nat} {r : Option Nat} {bs : List Byte} {p : Nat} {bad : Bool} {S : List Nat}
end

/-- bits that a Reader has left -/
def leftR (bs : List Byte) (p : Nat) (bad : Bool) : Nat := if bad then 0 else 8 * bs.length - p

/-- what Skip makes of a Reader -/
def skipP (bs : List Byte) (p : Nat) (bad : Bool) (k : Int) : Nat := if bad ∨ k < 0 ∨ (leftR bs p bad : Int) < k then p else p + k.toNat
def skipB (bs : List Byte) (p : Nat) (bad : Bool) (k : Int) : Bool := decide (bad ∨ k < 0 ∨ (leftR bs p bad : Int) < k)

end Go.Proofs.Ytdjopkfibfgjeaa
