/-
  The walks of the small functions of package bits that its Writer wants: bytes.Clone, a width's test, NewWriter, Len, Bytes.
-/
import Derived.Test.YtdjopkfibfgjeaaBitsMath
import Derived.Test.YtdjopkfibfgjeaaBase
import Derived.Test.YtdjopkfibfgjeaaClone
import Derived.Deep.QuietTactic
import Derived.BigQuiet
import Derived.BigRegion
namespace Go.Proofs.Ytdjopkfibfgjeaa
open Go.RowKit

end Go.Proofs.Ytdjopkfibfgjeaa
