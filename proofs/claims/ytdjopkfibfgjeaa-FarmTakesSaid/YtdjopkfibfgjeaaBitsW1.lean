/-
  The walk of Put of package bits' Writer.
-/
import Derived.Test.YtdjopkfibfgjeaaBitsW0
import Derived.Deep.DeepCutAuto
import Derived.Deep.LoopGhost
namespace Go.Proofs.Ytdjopkfibfgjeaa
open Go.RowKit

theorem min_of (a b : Nat) : ∃ s : Nat, (if b < a then (b : Int) else (a : Int)) = (s : Int) ∧ s ≤ a ∧ s ≤ b ∧ (0 < a → 0 < b → 0 < s) := by
  refine ⟨min a b, ?_, by omega, by omega, by omega⟩
  split <;> omega

end Go.Proofs.Ytdjopkfibfgjeaa
