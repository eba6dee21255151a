/-
  The Writer of package bits as one state; the walk of package packet's Encode.
-/
import Derived.Test.YtdjopkfibfgjeaaPacW1
import Derived.Test.YtdjopkfibfgjeaaBitsW1
import Derived.Test.YtdjopkfibfgjeaaHand
namespace Go.Proofs.Ytdjopkfibfgjeaa.Pac
open Go.RowKit

theorem to_u64 (X : Nat) (h : X < 1000000) : IntKind.u64.wrap (X : Int) = (X : Int) := by rw [IntKind.wrap_u64]; omega

theorem Ow_nil (w : World) (base : Nat) : Ow w base 5 (.slice none 0 0) [] := World.ownsRow_nil _ _ _ _

end Go.Proofs.Ytdjopkfibfgjeaa.Pac
