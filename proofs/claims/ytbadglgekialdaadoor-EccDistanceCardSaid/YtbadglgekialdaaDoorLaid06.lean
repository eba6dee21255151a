/-
  What the rows of layer 6 list of the package-level variables gives the walks: the cells of the table of runs and of the library's table.
-/
import Derived.Test.YtbadglgekialdaaDoorLaw06
import Derived.Lib.LaidTab
import Derived.MakeChecks
import Derived.LaidMore
import Derived.LaidHandle
import Derived.Stop.LaidErr
namespace Go.Proofs.YtbadglgekialdaaDoor.Ecc
open Go.RowKit

abbrev laid06 : List (String × DataW Unit) := [("math/bits.deBruijn64tab", Rows.laid_math_bits_deBruijn64tab), ("spacecraft/ecc.runs", Rows.laid_spacecraft_ecc_runs)]
theorem gTab : Tryd.prog.globalNamed "math/bits.deBruijn64tab" = some 1 := by kernel_rfl
theorem gRuns : Tryd.prog.globalNamed "spacecraft/ecc.runs" = some 0 := by kernel_rfl
theorem tTab : (Tryd.prog.globals[1]?).map (·.type) = some 44 := by kernel_rfl
theorem tRuns : (Tryd.prog.globals[0]?).map (·.type) = some 42 := by kernel_rfl
def zTab : List Int := Lib.deBruijn64tab.map fun n : Nat => (n : Int)
def zRuns : List Int := [8, 224, 65024, 4294836224, 541165879296]
theorem dTab : (Rows.laid_math_bits_deBruijn64tab : DataW Unit) = Lib.tabData .u8 zTab := by rfl
theorem dRuns : (Rows.laid_spacecraft_ecc_runs : DataW Unit) = Lib.tabData .u64 zRuns := by rfl
theorem zTab_at (j : Nat) : zTab.getD j 0 = ((Lib.deBruijn64tab.getD j 0 : Nat) : Int) := by
  unfold zTab
  rw [List.getD_eq_getElem?_getD, List.getD_eq_getElem?_getD, List.getElem?_map]
  cases Lib.deBruijn64tab[j]? <;> rfl
theorem zRuns_at : ∀ i, i < 5 → zRuns.getD i 0 = ((msk i : Nat) : Int) := by decide +kernel

theorem laid_tabs {W : World} (h : laidMetH Tryd.prog laid06 W) : Tabs W := by
  rw [MakeChecks.laidMetH_plain _ _ _ (by kernel_rfl)] at h
  unfold laid06 at h
  rw [dTab, dRuns] at h
  have h1 := Lib.tabIs_of_head gTab tTab Tryd.underlying44 Tryd.underlying5 (by kernel_rfl) (by kernel_rfl) h
  have h2 := Lib.tabIs_of_head gRuns tRuns Tryd.underlying42 Tryd.underlying23 (by kernel_rfl) (by kernel_rfl) h.tail
  refine ⟨fun i hi => ?_, fun j hj => ?_⟩
  · have := h2.cell gRuns i hi
    rw [zRuns_at i hi] at this
    exact this
  · have := h1.cell gTab j hj
    rw [zTab_at] at this
    exact this
theorem door06 (os : Os) (args : Array Value) : laidMetH Tryd.prog laid06 ((World.doorLaid Tryd.prog 19 os).forCall (fun _ _ => 0) ⟨#[], args, []⟩).memory :=
  laidMetH_of_parts3 (fuel := 8) (laidMet_of_run' 8 (by kernel_rfl) (by kernel_rfl)) (by kernel_rfl) (by kernel_rfl)
end Go.Proofs.YtbadglgekialdaaDoor.Ecc
