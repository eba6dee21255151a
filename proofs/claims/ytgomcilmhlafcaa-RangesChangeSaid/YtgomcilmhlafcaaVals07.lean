/-
  The argument of the laws of chapter 7: a slice of ranges.
-/
import Derived.Test.YtgomcilmhlafcaaRows
import Derived.Test.YtgomcilmhlafcaaRecs
import Derived.Test.YtgomcilmhlafcaaArgsPair
import Derived.Test.YtgomcilmhlafcaaRngH
import Derived.ChangeSlices
namespace Go.Proofs.Ytgomcilmhlafcaa
open Go.RowKit Go.ChangeShapes Go.WideShapes Go.Deep
open Rng (R I In64 Rs)

theorem i64_of {n : Int} (h : (Lit.int .i64 n).wf = true) : -9223372036854775808 ≤ n ∧ n < 9223372036854775808 := by
  have := (by simpa [Lit.wf, IntKind.min, IntKind.max, IntKind.bits, IntKind.signed] using h : _ ∧ _)
  omega

section
variable {H : Type} {enc : TypeId × Value → H} {w : World} {base : Nat} {held : Bool}

theorem open_ranges {r : Reach} {b0 : Nat} {v : Value} {d : DataW H} {ps : List MemPlace} (hval : Value.okWide Try.prog w r b0 22 v) (hd : DataW.Trod enc Try.prog w base (fun _ => true) held 22 v d ps) :
    ∃ a cap, ∃ l : List R, v = .slice a l.length cap ∧ (a = none → cap = 0) ∧ l.length ≤ cap ∧ cap ≤ maxLen ∧ Rs w w.heap.size a l ∧ In64 l := by
  obtain ⟨a0, len0, cap0, rfl⟩ := okWide_slice Try.underlying22 hval
  obtain ⟨fuel, hf⟩ := hd
  rcases open_recs Try.underlying22 Try.underlying24 (hone_of (by kernel_rfl)) (by kernel_rfl) hf with hcs | ⟨a, len, cap, n, V, hcs, hl, hm, hx⟩
  · simp [Value.cells] at hcs
    obtain ⟨rfl, rfl, rfl⟩ := hcs
    exact ⟨none, 0, [], rfl, fun _ => rfl, by simp, by simp, Rs.nil_, fun x hx => by simp at hx⟩
  · simp [Value.cells] at hcs
    obtain ⟨rfl, rfl, rfl⟩ := hcs
    have sel : ∀ i, i < len0 → ∃ x : R, V i 0 = I x.1 ∧ V i 1 = I x.2 ∧ (Lit.int .i64 x.1).wf = true ∧ (Lit.int .i64 x.2).wf = true := by
      intro i hi
      obtain ⟨c0, d0, t0⟩ := hx i hi 0 _ rfl
      obtain ⟨c1, d1, t1⟩ := hx i hi 1 _ rfl
      obtain ⟨k, hk, _, wk⟩ := DataW.trod_int Try.underlying3 t0
      obtain ⟨m, hm', _, wm⟩ := DataW.trod_int Try.underlying3 t1
      injection hk with hk
      injection hm' with hm'
      exact ⟨(k, m), hk, hm', wk, wm⟩
    obtain ⟨F, hF⟩ := choose_lt sel
    have hlen : ((List.range len0).map F).length = len0 := by simp
    have hat : ∀ i x, ((List.range len0).map F)[i]? = some x → i < len0 ∧ x = F i := by
      intro i x hv
      rw [List.getElem?_map] at hv
      by_cases hi : i < len0
      · rw [List.getElem?_range hi] at hv
        injection hv with hv
        exact ⟨hi, hv.symm⟩
      · rw [List.getElem?_eq_none (by simpa using hi)] at hv
        cases hv
    refine ⟨some a, cap0, (List.range len0).map F, by rw [hlen], (fun h => nomatch h), by rw [hlen]; exact hl, hm, fun hpos => ?_, fun x hxm => ?_⟩
    · rw [hlen] at hpos
      obtain ⟨b, off, spot⟩ := a
      have hs : spot = none := by
        have := World.cell?_spot (hx 0 hpos 0 _ rfl).1
        simpa [Addr.add] using this
      subst hs
      have c00 := (hx 0 hpos 0 _ rfl).1
      rw [add_plain] at c00
      refine ⟨b, off, rfl, lt_of_cell c00, fun i x hv => ?_⟩
      obtain ⟨hi, rfl⟩ := hat i x hv
      obtain ⟨e0, e1, _⟩ := hF i hi
      have c0 := (hx i hi 0 _ rfl).1
      have c1 := (hx i hi 1 _ rfl).1
      rw [add_plain] at c0 c1
      rw [e0] at c0
      rw [e1] at c1
      exact ⟨c0, c1⟩
    · obtain ⟨i, hi, rfl⟩ := List.getElem_of_mem hxm
      obtain ⟨hi', e⟩ := hat i _ (List.getElem?_eq_getElem hi)
      obtain ⟨_, _, w0, w1⟩ := hF i hi'
      rw [e]
      have := i64_of w0
      have := i64_of w1
      omega
end
end Go.Proofs.Ytgomcilmhlafcaa
