/-
  An argument opened: a slice of packets.
-/
import Derived.Test.YtfjmlgclgmcjcaaRows
import Derived.Test.YtfjmlgclgmcjcaaRecs
import Derived.Test.YtfjmlgclgmcjcaaArgAgg
import Derived.Test.YtfjmlgclgmcjcaaParH
import Derived.ChangeSlices
namespace Go.Proofs.Ytfjmlgclgmcjcaa.Par
open Go.RowKit Go.ChangeShapes Go.WideShapes Go.Deep Go.Proofs.Ytfjmlgclgmcjcaa.Row
open Pac (Pk)

theorem open_packets {H : Type} {enc' : TypeId × Value → H} {w : World} {base : Nat} {held : Bool} {r : Reach} {b0 : Nat} {v : Value} {d : DataW H} {ps : List MemPlace} (hval : Value.okWide Try.prog w r b0 26 v) (hd : DataW.Trod enc' Try.prog w base (fun _ => true) held 26 v d ps) :
    ∃ a cap, ∃ l : List Pk, v = .slice a l.length cap ∧ (a = none → cap = 0) ∧ l.length ≤ cap ∧ cap ≤ maxLen ∧ PS w w.heap.size a l := by
  obtain ⟨a0, len0, cap0, rfl⟩ := okWide_slice Try.underlying26 hval
  obtain ⟨fuel, hf⟩ := hd
  rcases open_recs Try.underlying26 Try.underlying24 (hone_of (by kernel_rfl)) (by kernel_rfl) hf with hcs | ⟨a, len, cap, n, V, hcs, hl, hm, hx⟩
  · simp [Value.cells] at hcs
    obtain ⟨rfl, rfl, rfl⟩ := hcs
    exact ⟨none, 0, [], rfl, fun _ => rfl, by simp, by simp, PS.nil_⟩
  · simp [Value.cells] at hcs
    obtain ⟨rfl, rfl, rfl⟩ := hcs
    have sel : ∀ i, i < len0 → ∃ q : Qp, (∀ (j : Nat) (u : Value), (enc q)[j]? = some u → V i j = u) ∧ Dt w w.heap.size q.p.d q.a q.c := by
      intro i hi
      obtain ⟨c0, d0, t0⟩ := hx i hi 0 _ rfl
      obtain ⟨c1, d1, t1⟩ := hx i hi 1 _ rfl
      obtain ⟨c2, d2, t2⟩ := hx i hi 2 _ rfl
      obtain ⟨c3, d3, t3⟩ := hx i hi 3 _ rfl
      obtain ⟨c4, d4, t4⟩ := hx i hi 4 _ rfl
      obtain ⟨c5, d5, t5⟩ := hx i hi 5 _ rfl
      obtain ⟨x0, e0, _⟩ := DataW.trod_bool Try.underlying4 t0
      obtain ⟨x1, e1, _⟩ := DataW.trod_bool Try.underlying4 t1
      obtain ⟨x2, e2, _⟩ := DataW.trod_int Try.underlying3 t2
      obtain ⟨x3, e3, _⟩ := DataW.trod_int Try.underlying3 t3
      obtain ⟨x4, e4, _⟩ := DataW.trod_int Try.underlying3 t4
      obtain ⟨A5, l5, c5', e5, hb, hn, hlc, hcm⟩ := open_bytes_cell Try.underlying22 Try.underlying5 (by kernel_rfl) t5
      injection e0 with e0
      injection e1 with e1
      injection e2 with e2
      injection e3 with e3
      injection e4 with e4
      refine ⟨⟨⟨x0, x1, x2, x3, x4, l5⟩, A5, c5'⟩, fun j u hu => ?_, hb, hn, hlc, hcm⟩
      match j, hu with
      | 0, hu => simp [enc] at hu; rw [← hu]; exact e0
      | 1, hu => simp [enc] at hu; rw [← hu]; exact e1
      | 2, hu => simp [enc] at hu; rw [← hu]; exact e2
      | 3, hu => simp [enc] at hu; rw [← hu]; exact e3
      | 4, hu => simp [enc] at hu; rw [← hu]; exact e4
      | 5, hu => simp [enc] at hu; rw [← hu]; exact e5
      | j + 6, hu => simp [enc] at hu
    have : Inhabited Qp := ⟨⟨⟨false, false, 0, 0, 0, []⟩, none, 0⟩⟩
    obtain ⟨F, hF⟩ := choose_lt sel
    have hlen : (((List.range len0).map F).map (·.p)).length = len0 := by simp
    refine ⟨some a, cap0, ((List.range len0).map F).map (·.p), by rw [hlen], (fun h => nomatch h), by rw [hlen]; exact hl, hm, (List.range len0).map F, rfl, fun h0 => ?_, fun q hq => ?_⟩
    · have h0 : 0 < len0 := by simpa using h0
      obtain ⟨b, off, spot⟩ := a
      have hs : spot = none := by
        have := World.cell?_spot (hx 0 h0 0 _ rfl).1
        simpa [Addr.add] using this
      subst hs
      have hb : b < w.heap.size := by
        have c0 := (hx 0 h0 0 _ rfl).1
        rw [add_plain] at c0
        exact lt_of_cell c0
      refine ⟨b, off, rfl, hb, fun i x hix j u hu => ?_⟩
      rw [List.getElem?_map] at hix
      by_cases hi : i < len0
      · rw [List.getElem?_range hi] at hix
        injection hix with hix
        subst hix
        have hj : j < 6 := by
          have := (List.getElem?_eq_some_iff.1 hu).1
          simpa [enc] using this
        have c : w.cell? ((⟨b, off, none⟩ : Addr).add (i * 6 + j)) = some (V i j) := by
          match j, hj with
          | 0, _ => exact (hx i hi 0 _ rfl).1
          | 1, _ => exact (hx i hi 1 _ rfl).1
          | 2, _ => exact (hx i hi 2 _ rfl).1
          | 3, _ => exact (hx i hi 3 _ rfl).1
          | 4, _ => exact (hx i hi 4 _ rfl).1
          | 5, _ => exact (hx i hi 5 _ rfl).1
        rw [add_plain, (hF i hi).1 j u hu] at c
        rw [Nat.add_assoc]
        exact c
      · rw [List.getElem?_eq_none (by simpa using hi)] at hix
        cases hix
    · obtain ⟨i, hi, rfl⟩ := List.mem_map.1 hq
      exact (hF i (by simpa using hi)).2
end Go.Proofs.Ytfjmlgclgmcjcaa.Par
