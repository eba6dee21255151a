/-
  The walks of 'lives' of layer 12, and of the laws ScrambleSequence, ScrambleApplies, ScrambleBack.
-/
import Derived.Test.YtahpogmbkkpmdaaScrAp
import Derived.Test.YtahpogmbkkpmdaaRef12b
import Derived.Test.YtahpogmbkkpmdaaHand
namespace Go.Proofs.Ytahpogmbkkpmdaa.Scr
open Go.RowKit

theorem bel_new (w : World) (o : Obj) : Below w.heap.size w (w.alloc o) := (Below.refl _ _).alloc (Nat.le_refl _) _
theorem conv_at (w : World) {B : Nat} {A : Option Addr} {l : List Byte} {n c : Nat} (hl : l.length = n) (hb : Bs w B A l) (hn : A = none → c = 0) :
    (convert 22 9 (.slice A n c)).run Try.prog w = .ok (.string (str l)) w := by
  subst hl
  exact run_str w is_bytes Try.underlying9 hb hn

end Go.Proofs.Ytahpogmbkkpmdaa.Scr
