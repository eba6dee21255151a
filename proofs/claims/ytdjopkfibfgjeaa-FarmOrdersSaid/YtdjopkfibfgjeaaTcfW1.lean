/-
  The walk of package tcframe's Encode.
-/
import Derived.Test.YtdjopkfibfgjeaaTcfW0
import Derived.Test.YtdjopkfibfgjeaaPacW2
import Derived.Test.YtdjopkfibfgjeaaCrcW3
namespace Go.Proofs.Ytdjopkfibfgjeaa.Tcf
open Go.RowKit Go.Proofs.Ytdjopkfibfgjeaa.Pac

end Go.Proofs.Ytdjopkfibfgjeaa.Tcf
