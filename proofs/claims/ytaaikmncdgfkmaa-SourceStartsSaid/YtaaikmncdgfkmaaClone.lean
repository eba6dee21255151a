/-
  The walk of bytes.Clone: at every slice of bytes; at nil.
-/
import Derived.Test.YtaaikmncdgfkmaaBase
import Derived.Deep.QuietTactic
import Derived.BigQuiet
import Derived.BigRegion
namespace Go.Proofs.Ytaaikmncdgfkmaa
open Go.RowKit

end Go.Proofs.Ytaaikmncdgfkmaa
