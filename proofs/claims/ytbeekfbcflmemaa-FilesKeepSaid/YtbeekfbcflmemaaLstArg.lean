/-
  An argument opened: a slice of byte slices.
-/
import Derived.Test.YtbeekfbcflmemaaRows
import Derived.Test.YtbeekfbcflmemaaRecs
import Derived.Test.YtbeekfbcflmemaaArgAgg
import Derived.Test.YtbeekfbcflmemaaLstH
import Derived.ChangeSlices
namespace Go.Proofs.Ytbeekfbcflmemaa.Lst
open Go.RowKit Go.ChangeShapes Go.WideShapes Go.Deep Go.Proofs.Ytbeekfbcflmemaa.Row

theorem add_plain' (b off i : Nat) : (⟨b, off, none⟩ : Addr).add i = ⟨b, off + i, none⟩ := by
  by_cases h : i = 0
  · subst h; rfl
  · simp [Addr.add, h]
set_option maxRecDepth 100000 in
theorem open_lists {H : Type} {enc' : TypeId × Value → H} {w : World} {base : Nat} {held : Bool} {r : Reach} {b0 : Nat} {v : Value} {d : DataW H} {ps : List MemPlace} (hval : Value.okWide Try.prog w r b0 51 v) (hd : DataW.Trod enc' Try.prog w base (fun _ => true) held 51 v d ps) :
    ∃ a cap, ∃ l : List (List Byte), v = .slice a l.length cap ∧ (a = none → cap = 0) ∧ l.length ≤ cap ∧ cap ≤ maxLen ∧ LS w w.heap.size a l := by
  obtain ⟨a0, len0, cap0, rfl⟩ := okWide_slice Try.underlying51 hval
  obtain ⟨fuel, hf⟩ := hd
  rcases open_slice1 Try.underlying51 (by kernel_rfl) hf with ⟨hcs, _⟩ | ⟨a, len, cap, m, n, V, D, Pl, hcs, _, hl, hm, hmm, _, hx⟩
  · simp [Value.cells] at hcs
    obtain ⟨rfl, rfl, rfl⟩ := hcs
    exact ⟨none, 0, [], rfl, fun _ => rfl, by simp, by simp, LS.nil_⟩
  · simp [Value.cells] at hcs
    obtain ⟨rfl, rfl, rfl⟩ := hcs
    have hlm : len0 ≤ m := by rw [hmm]; split <;> omega
    have sel : ∀ i, i < len0 → ∃ q : Qb, V i = .slice q.a q.l.length q.c ∧ Dt w w.heap.size q.l q.a q.c := by
      intro i hi
      obtain ⟨A5, l5, c5, e5, hb, hn, hlc, hcm⟩ := open_bytes_cell Try.underlying30 Try.underlying5 (by kernel_rfl) (hx i (by omega)).2
      exact ⟨⟨l5, A5, c5⟩, e5, hb, hn, hlc, hcm⟩
    have : Inhabited Qb := ⟨⟨[], none, 0⟩⟩
    obtain ⟨F, hF⟩ := choose_lt sel
    have hlen : (((List.range len0).map F).map (·.l)).length = len0 := by simp
    refine ⟨some a, cap0, ((List.range len0).map F).map (·.l), by rw [hlen], (fun h => nomatch h), by rw [hlen]; exact hl, hm, (List.range len0).map F, rfl, fun h0 => ?_, fun q hq => ?_⟩
    · have h0 : 0 < len0 := by simpa using h0
      obtain ⟨b, off, spot⟩ := a
      have hs : spot = none := by
        have := World.cell?_spot (hx 0 (by omega)).1
        simpa [Addr.add] using this
      subst hs
      have hb : b < w.heap.size := by
        have c0 := (hx 0 (by omega)).1
        rw [add_plain'] at c0
        exact lt_of_cell c0
      refine ⟨b, off, rfl, hb, fun i x hix j u hu => ?_⟩
      rw [List.getElem?_map] at hix
      by_cases hi : i < len0
      · rw [List.getElem?_range hi] at hix
        injection hix with hix
        subst hix
        match j, hu with
        | 0, hu =>
          simp [enc] at hu
          have c := (hx i (by omega)).1
          rw [add_plain', (hF i hi).1] at c
          rw [Nat.mul_one, Nat.add_zero, ← hu]
          exact c
        | j + 1, hu => simp [enc] at hu
      · rw [List.getElem?_eq_none (by simpa using hi)] at hix
        cases hix
    · obtain ⟨i, hi, rfl⟩ := List.mem_map.1 hq
      exact (hF i (by simpa using hi)).2
end Go.Proofs.Ytbeekfbcflmemaa.Lst
