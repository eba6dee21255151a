/-
  The Reader of package bits beside a frame's block as one state; the walk of package tcframe's readHeader.
-/
import Derived.Test.YtdjopkfibfgjeaaTcfW1
import Derived.Test.YtdjopkfibfgjeaaPacW3
import Derived.Test.YtdjopkfibfgjeaaBitsR1
namespace Go.Proofs.Ytdjopkfibfgjeaa.Tcf
open Go.RowKit Go.Proofs.Ytdjopkfibfgjeaa.Pac

end Go.Proofs.Ytdjopkfibfgjeaa.Tcf
