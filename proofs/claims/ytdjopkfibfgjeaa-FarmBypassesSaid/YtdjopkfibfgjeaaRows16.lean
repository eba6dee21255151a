/-
  The laws of layer 16 at the rows' arguments: slices of ints and of booleans.
-/
import Derived.Test.YtdjopkfibfgjeaaLaw16c
import Derived.Test.YtdjopkfibfgjeaaLaw16d
namespace Go.Proofs.Ytdjopkfibfgjeaa.Far
open Go.RowKit Ints

theorem farmBypasses_row {w : World} {a : Option Addr} {len cap : Nat} {zs : List Int} (h : IsRow .i64 w a len cap zs) :
    Calls Try.prog 6 #[.slice a len cap] w fun e w' => e = .returned (.bool true) ∧ Below w.heap.size w w' := by
  obtain ⟨l, rfl, hn, _, _, _⟩ := IsRow.ints h
  exact farmBypasses_walk l w a cap hn
theorem farmOrders_row {w : World} {a b : Option Addr} {len cap cap2 : Nat} {zs : List Int} {l2 : List Bool} (m : Int) (h : IsRow .i64 w a len cap zs) (h2 : Bools.Nb w w.heap.size b l2) :
    Calls Try.prog 4 #[.int .i64 m, .slice a len cap, .slice b l2.length cap2] w fun e w' => e = .returned (.bool true) ∧ Below w.heap.size w w' := by
  obtain ⟨l, rfl, hn, _, _, _⟩ := IsRow.ints h
  exact farmOrders_walk m l w a cap hn l2 b cap2 h2
end Go.Proofs.Ytdjopkfibfgjeaa.Far
