/-
  The law QueueAgain at the row's arguments.
-/
import Derived.Test.YtnnjmlpanbbanaaLaw08e
import Derived.Test.YtnnjmlpanbbanaaIntArg
namespace Go.Proofs.Ytnnjmlpanbbanaa.Rng.Que
open Go.RowKit Ints

theorem queueAgain_row {w : World} {a : Option Addr} {len cap : Nat} {zs : List Int} (m : BitVec 8) (h : IsRow .i64 w a len cap zs) :
    Calls Try.prog 6 #[.slice a len cap, .int .u8 m.toNat] w fun e w' => e = .returned (.bool true) ∧ Below w.heap.size w w' := by
  obtain ⟨l, rfl, hn, _, _, _⟩ := IsRow.ints h
  exact queueAgain_walk m l w a cap hn
end Go.Proofs.Ytnnjmlpanbbanaa.Rng.Que
