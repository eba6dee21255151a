/-
  The law LinkDelivers, its third argument as a row of ints.
-/
import Derived.Test.YtllhdgllgoanbaaVals23
import Derived.Test.YtllhdgllgoanbaaLaw23e
namespace Go.Proofs.Ytllhdgllgoanbaa.Lnk
open Go.RowKit

theorem linkDelivers_row (D : BitVec 8) (f0 f1 : Int) {a2 : Option Addr} {n2 k2 : Nat} {zs : List Int} (a3 : Option Addr) (l : List (List Byte)) (k3 : Nat) (w : World) (h2 : IsRow .i64 w a2 n2 k2 zs) (h3 : Lst.LS w w.heap.size a3 l) (hn3 : a3 = none → k3 = 0) :
    Calls Try.prog 4 #[.int .u8 (D.toNat : Int), .agg #[I f0, I f1], .slice a2 n2 k2, .slice a3 l.length k3] w fun e w' => e = .returned (.bool true) ∧ Below w.heap.size w w' := by
  obtain ⟨ms, rfl, s⟩ := Sl_row h2
  exact linkDelivers_walk D.toNat f0 f1 a2 ms _ k2 a3 l _ k3 w (by have := D.isLt; omega) s (Lib.hid rfl) h3 hn3
end Go.Proofs.Ytllhdgllgoanbaa.Lnk
