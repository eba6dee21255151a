/-
  The laws of layer 8 at the rows' arguments: slices of ints.
-/
import Derived.Test.YtnnjmlpanbbanaaLaw08c
import Derived.Test.YtnnjmlpanbbanaaLaw08d
import Derived.Test.YtnnjmlpanbbanaaIntArg
namespace Go.Proofs.Ytnnjmlpanbbanaa.Rng.Que
open Go.RowKit Ints

theorem queueStable_row {w : World} {a : Option Addr} {len cap : Nat} {zs : List Int} (h : IsRow .i64 w a len cap zs) :
    Calls Try.prog 4 #[.slice a len cap] w fun e w' => e = .returned (.bool true) ∧ Below w.heap.size w w' := by
  obtain ⟨l, rfl, hn, _, _, _⟩ := IsRow.ints h
  exact queueStable_walk l w a cap hn
theorem queueFull_row {w : World} {a : Option Addr} {len cap : Nat} {zs : List Int} (m : Int) (h : IsRow .i64 w a len cap zs) :
    Calls Try.prog 5 #[I m, .slice a len cap] w fun e w' => e = .returned (.bool true) ∧ Below w.heap.size w w' := by
  obtain ⟨l, rfl, hn, _, _, _⟩ := IsRow.ints h
  exact queueFull_walk m l w a cap hn
end Go.Proofs.Ytnnjmlpanbbanaa.Rng.Que
