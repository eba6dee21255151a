/-
  The argument of HistoryPlays: a slice of structs of a bool and an int.
-/
import Derived.Test.YtnkbilbaljdfgaaRows
import Derived.Test.YtnkbilbaljdfgaaRecs
import Derived.Test.YtnkbilbaljdfgaaArgsPair
import Derived.Test.YtnkbilbaljdfgaaLaw09c
import Derived.ChangeSlices
namespace Go.Proofs.Ytnkbilbaljdfgaa
open Go.RowKit Go.ChangeShapes Go.WideShapes Go.Deep
open Ints (I)
open His (Ss)

section
variable {H : Type} {enc : TypeId × Value → H} {w : World} {base : Nat} {held : Bool}

theorem open_steps {r : Reach} {b0 : Nat} {v : Value} {d : DataW H} {ps : List MemPlace} (hval : Value.okWide Try.prog w r b0 22 v) (hd : DataW.Trod enc Try.prog w base (fun _ => true) held 22 v d ps) :
    ∃ a cap, ∃ l : List (Bool × Int), v = .slice a l.length cap ∧ (a = none → cap = 0) ∧ l.length ≤ cap ∧ cap ≤ maxLen ∧ Ss w w.heap.size a l := by
  obtain ⟨a0, len0, cap0, rfl⟩ := okWide_slice Try.underlying22 hval
  obtain ⟨fuel, hf⟩ := hd
  rcases open_recs Try.underlying22 Try.underlying31 (hone_of (by kernel_rfl)) (by kernel_rfl) hf with hcs | ⟨a, len, cap, n, V, hcs, hl, hm, hx⟩
  · simp [Value.cells] at hcs
    obtain ⟨rfl, rfl, rfl⟩ := hcs
    exact ⟨none, 0, [], rfl, fun _ => rfl, by simp, by simp, fun h => by simp at h⟩
  · simp [Value.cells] at hcs
    obtain ⟨rfl, rfl, rfl⟩ := hcs
    have sel : ∀ i, i < len0 → ∃ x : Bool × Int, V i 0 = .bool x.1 ∧ V i 1 = I x.2 := by
      intro i hi
      obtain ⟨c0, d0, t0⟩ := hx i hi 0 _ rfl
      obtain ⟨c1, d1, t1⟩ := hx i hi 1 _ rfl
      obtain ⟨k, hk, _⟩ := DataW.trod_bool Try.underlying4 t0
      obtain ⟨m, hm', _, _⟩ := DataW.trod_int Try.underlying3 t1
      injection hk with hk
      injection hm' with hm'
      exact ⟨(k, m), hk, hm'⟩
    obtain ⟨F, hF⟩ := choose_lt sel
    have hlen : ((List.range len0).map F).length = len0 := by simp
    have hat : ∀ i x, ((List.range len0).map F)[i]? = some x → i < len0 ∧ x = F i := by
      intro i x hv
      rw [List.getElem?_map] at hv
      by_cases hi : i < len0
      · rw [List.getElem?_range hi] at hv
        injection hv with hv
        exact ⟨hi, hv.symm⟩
      · rw [List.getElem?_eq_none (by simpa using hi)] at hv
        cases hv
    refine ⟨some a, cap0, (List.range len0).map F, by rw [hlen], (fun h => nomatch h), by rw [hlen]; exact hl, hm, fun hpos => ?_⟩
    rw [hlen] at hpos
    obtain ⟨b, off, spot⟩ := a
    have hs : spot = none := by
      have := World.cell?_spot (hx 0 hpos 0 _ rfl).1
      simpa [Addr.add] using this
    subst hs
    have c00 := (hx 0 hpos 0 _ rfl).1
    rw [add_plain] at c00
    refine ⟨b, off, rfl, lt_of_cell c00, fun i x hv => ?_⟩
    obtain ⟨hi, rfl⟩ := hat i x hv
    obtain ⟨e0, e1⟩ := hF i hi
    have c0 := (hx i hi 0 _ rfl).1
    have c1 := (hx i hi 1 _ rfl).1
    rw [add_plain] at c0 c1
    rw [e0] at c0
    rw [e1] at c1
    exact ⟨c0, c1⟩
end
end Go.Proofs.Ytnkbilbaljdfgaa
