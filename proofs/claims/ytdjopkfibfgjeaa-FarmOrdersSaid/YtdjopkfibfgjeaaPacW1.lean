/-
  The walk of package packet's Valid.
-/
import Derived.Test.YtdjopkfibfgjeaaPacW0
namespace Go.Proofs.Ytdjopkfibfgjeaa.Pac
open Go.RowKit

theorem ok_bad {com sec : Bool} {ap fl ct : Int} {l : List Byte} (h : ap < 0 ∨ 2047 < ap ∨ fl < 0 ∨ 3 < fl ∨ ct < 0 ∨ 16383 < ct ∨ l.length = 0 ∨ 4090 < l.length) : Pk.ok ⟨com, sec, ap, fl, ct, l⟩ = false :=
  Pk.ok_no (fun ⟨h1, h2, h3, h4, h5, h6, h7, h8⟩ => by simp only at h1 h2 h3 h4 h5 h6 h7 h8; omega)

end Go.Proofs.Ytdjopkfibfgjeaa.Pac
