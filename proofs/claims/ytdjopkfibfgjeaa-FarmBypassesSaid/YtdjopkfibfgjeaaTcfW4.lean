/-
  The walks of package tcframe's control, Unlock, SetNext.
-/
import Derived.Test.YtdjopkfibfgjeaaTcfW3
import Derived.Test.YtdjopkfibfgjeaaRd
import Derived.ArgAppend
import Derived.Lib.SlBytesConst
namespace Go.Proofs.Ytdjopkfibfgjeaa.Tcf
open Go.RowKit Go.Proofs.Ytdjopkfibfgjeaa.Pac

theorem Bs.adds {w : World} {B b off : Nat} {l : List Byte} (h : Bs w B (some ⟨b, off, none⟩) l) : ∀ j u, (l.map B8)[j]? = some u → w.cell? ((⟨b, off, none⟩ : Addr).add j) = some u := fun j u hu => by
  rw [List.getElem?_map] at hu
  cases hx : l[j]? with
  | none => rw [hx] at hu; cases hu
  | some x =>
    rw [hx] at hu
    injection hu with hu
    subst hu
    have hj := (List.getElem?_eq_some_iff.1 hx).1
    obtain ⟨b', off', he, _, hc⟩ := h (by omega)
    injection he with he
    injection he with e1 e2
    subst e1 e2
    by_cases h0 : j = 0
    · subst h0; simpa [Addr.add] using hc 0 x hx
    · simpa [Addr.add, h0] using hc j x hx

end Go.Proofs.Ytdjopkfibfgjeaa.Tcf
