/-
  An argument: a slice of ints that came in, as a list. No dump is imported.
-/
import Derived.Test.YtllhdgllgoanbaaBytes
import Derived.Test.YtllhdgllgoanbaaIntH
namespace Go.Proofs.Ytllhdgllgoanbaa.Ints
open Go.RowKit

theorem IsRow.ints {w : World} {a : Option Addr} {len cap : Nat} {zs : List Int} (h : IsRow .i64 w a len cap zs) :
    ∃ l : List Int, len = l.length ∧ Ns w w.heap.size a l ∧ (a = none → cap = 0) ∧ l.length ≤ cap ∧ cap ≤ maxLen := by
  rcases h with ⟨rfl, rfl, rfl, rfl⟩ | ⟨x, rfl, hl, hm, hz, hc, hw⟩
  · exact ⟨[], rfl, Ns.nil_, fun _ => rfl, by simp, by simp⟩
  · refine ⟨zs.take len, by simp; omega, fun hpos => ?_, by simp, by simp; omega, hm⟩
    have h0 := hc 0 (by simp at hpos; omega)
    obtain ⟨b, off, spot⟩ := x
    have hs : spot = none := by simpa [Addr.add] using World.cell?_spot h0
    subst hs
    refine ⟨b, off, rfl, lt_of_cell h0, fun i y hy => ?_⟩
    rw [List.getElem?_take] at hy
    split at hy
    · rename_i hi
      have hzi : i < zs.length := (List.getElem?_eq_some_iff.1 hy).1
      have := hc i hzi
      rw [List.getD_eq_getElem?_getD, hy] at this
      by_cases hi0 : i = 0
      · subst hi0; simpa [Addr.add] using this
      · simpa [Addr.add, hi0] using this
    · cases hy
end Go.Proofs.Ytllhdgllgoanbaa.Ints
