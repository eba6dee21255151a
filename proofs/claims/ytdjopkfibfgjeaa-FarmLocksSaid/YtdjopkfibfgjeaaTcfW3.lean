/-
  The walk of package tcframe's Decode.
-/
import Derived.Test.YtdjopkfibfgjeaaTcfW2
import Derived.Test.YtdjopkfibfgjeaaPacW4
namespace Go.Proofs.Ytdjopkfibfgjeaa.Tcf
open Go.RowKit Go.Proofs.Ytdjopkfibfgjeaa.Pac

theorem bel_drewN (B : Nat) (w : World) (k : Nat) : Below B w (w.drewN k) := ⟨rfl, rfl, rfl, Nat.le_refl _, fun _ _ => rfl⟩

end Go.Proofs.Ytdjopkfibfgjeaa.Tcf
