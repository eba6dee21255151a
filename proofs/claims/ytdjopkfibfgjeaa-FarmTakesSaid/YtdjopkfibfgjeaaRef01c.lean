/-
  The walk of the reference's Check16, 
-/
import Derived.Test.YtdjopkfibfgjeaaRef01b
import Derived.Deep.RegionWith
namespace Go.Proofs.Ytdjopkfibfgjeaa
open Go.RowKit

theorem str_eq_iff (l m : List Byte) : (str l = str m) ↔ l = m := ⟨str_inj, fun h => by rw [h]⟩

end Go.Proofs.Ytdjopkfibfgjeaa
