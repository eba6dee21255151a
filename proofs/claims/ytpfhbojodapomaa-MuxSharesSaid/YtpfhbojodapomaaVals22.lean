/-
  The arguments of layer 22's laws: a slice of channels, of ints, of slices of ints.
-/
import Derived.Test.YtpfhbojodapomaaRows
import Derived.Test.YtpfhbojodapomaaRecs
import Derived.Test.YtpfhbojodapomaaArgAgg
import Derived.Test.YtpfhbojodapomaaIntArg
import Derived.Test.YtpfhbojodapomaaLaw22d
import Derived.Test.YtpfhbojodapomaaLaw22e
import Derived.ChangeSlices
namespace Go.Proofs.Ytpfhbojodapomaa
open Go.RowKit Go.ChangeShapes Go.WideShapes Go.Deep Go.Proofs.Ytpfhbojodapomaa.Row Ints
open Mux (Ch Qi encA encQ LI)

section
variable {H : Type} {enc : TypeId × Value → H} {w : World} {base : Nat} {held : Bool}

theorem open_chans {r : Reach} {b0 : Nat} {v : Value} {d : DataW H} {ps : List MemPlace} (hval : Value.okWide Try.prog w r b0 22 v) (hd : DataW.Trod enc Try.prog w base (fun _ => true) held 22 v d ps) :
    ∃ a cap, ∃ l : List Ch, v = .slice a l.length cap ∧ (a = none → cap = 0) ∧ l.length ≤ maxLen ∧ Hid (∀ x ∈ l, x.cr = 0 ∧ x.sn = 0) ∧ Rs encA 3 w w.heap.size a l := by
  obtain ⟨a0, len0, cap0, rfl⟩ := okWide_slice Try.underlying22 hval
  obtain ⟨fuel, hf⟩ := hd
  rcases open_recs Try.underlying22 Try.underlying42 (hone_of (by kernel_rfl)) (by kernel_rfl) hf with hcs | ⟨a, len, cap, n, V, hcs, hl, hm, hx⟩
  · simp [Value.cells] at hcs
    obtain ⟨rfl, rfl, rfl⟩ := hcs
    exact ⟨none, 0, [], rfl, fun _ => rfl, by simp, Lib.hid (by simp), Rs.nil_⟩
  · simp [Value.cells] at hcs
    obtain ⟨rfl, rfl, rfl⟩ := hcs
    have sel : ∀ i, i < len0 → ∃ x : Ch, V i 0 = .int .i64 x.id ∧ V i 1 = .int .i64 x.pr ∧ V i 2 = .int .i64 x.wt ∧ x.cr = 0 ∧ x.sn = 0 := by
      intro i hi
      obtain ⟨c0, d0, t0⟩ := hx i hi 0 _ rfl
      obtain ⟨c1, d1, t1⟩ := hx i hi 1 _ rfl
      obtain ⟨c2, d2, t2⟩ := hx i hi 2 _ rfl
      obtain ⟨k, hk, _, _⟩ := DataW.trod_int Try.underlying3 t0
      obtain ⟨m, hm', _, _⟩ := DataW.trod_int Try.underlying3 t1
      obtain ⟨q, hq, _, _⟩ := DataW.trod_int Try.underlying3 t2
      injection hk with hk
      injection hm' with hm'
      injection hq with hq
      exact ⟨⟨k, m, q, 0, 0⟩, hk, hm', hq, rfl, rfl⟩
    obtain ⟨F, hF⟩ := choose_lt sel
    have hlen : ((List.range len0).map F).length = len0 := by simp
    have hat : ∀ i x, ((List.range len0).map F)[i]? = some x → i < len0 ∧ x = F i := by
      intro i x hv
      rw [List.getElem?_map] at hv
      by_cases hi : i < len0
      · rw [List.getElem?_range hi] at hv
        injection hv with hv
        exact ⟨hi, hv.symm⟩
      · rw [List.getElem?_eq_none (by simpa using hi)] at hv
        cases hv
    refine ⟨some a, cap0, (List.range len0).map F, by rw [hlen], (fun h => nomatch h), by rw [hlen]; omega, Lib.hid (fun x hx' => ?_), fun hpos => ?_⟩
    · obtain ⟨i, hi, rfl⟩ := List.mem_map.1 hx'
      exact (hF i (by simpa using hi)).2.2.2
    rw [hlen] at hpos
    obtain ⟨b, off, spot⟩ := a
    have hs : spot = none := by
      have := World.cell?_spot (hx 0 hpos 0 _ rfl).1
      simpa [Addr.add] using this
    subst hs
    have c00 := (hx 0 hpos 0 _ rfl).1
    rw [add_plain] at c00
    refine ⟨b, off, rfl, lt_of_cell c00, fun i x hv j u hu => ?_⟩
    obtain ⟨hi, rfl⟩ := hat i x hv
    obtain ⟨e0, e1, e2, _⟩ := hF i hi
    have c0 := (hx i hi 0 _ rfl).1
    have c1 := (hx i hi 1 _ rfl).1
    have c2 := (hx i hi 2 _ rfl).1
    rw [add_plain] at c0 c1 c2
    rw [e0] at c0
    rw [e1] at c1
    rw [e2] at c2
    match j, hu with
    | 0, hu => simp [encA] at hu; rw [← hu]; exact c0
    | 1, hu => simp [encA] at hu; rw [← hu]; exact c1
    | 2, hu => simp [encA] at hu; rw [← hu]; exact c2
    | j + 3, hu => simp [encA] at hu

theorem ints_cell {n : Nat} {v : Value} {y : DataW H × List MemPlace} (hf : DataW.trod enc Try.prog w base (fun _ => true) held n 28 [v] = some y) :
    ∃ a cap, ∃ l : List Int, v = .slice a l.length cap ∧ Ns w w.heap.size a l ∧ l.length ≤ maxLen := by
  rcases open_ints Try.underlying28 Try.underlying3 (by kernel_rfl) hf with ⟨hcs, _⟩ | ⟨x, l, c, zs, hcs, _, hl, hm, hz, _, hcell, hwz⟩
  · injection hcs with hcs
    exact ⟨none, 0, [], hcs, Ns.nil_, by simp⟩
  · injection hcs with hcs
    have h : IsRow .i64 w (some x) l c zs := .inr ⟨_, rfl, hl, hm, by simpa using hz, hcell, hwz⟩
    obtain ⟨l2, rfl, hn, _, h1, h2⟩ := IsRow.ints h
    exact ⟨some x, c, l2, hcs, hn, by omega⟩

set_option maxRecDepth 100000 in
theorem open_lints {r : Reach} {b0 : Nat} {v : Value} {d : DataW H} {ps : List MemPlace} (hval : Value.okWide Try.prog w r b0 34 v) (hd : DataW.Trod enc Try.prog w base (fun _ => true) held 34 v d ps) :
    ∃ a cap, ∃ l : List Qi, v = .slice a l.length cap ∧ l.length ≤ maxLen ∧ LI w w.heap.size a l := by
  obtain ⟨a0, len0, cap0, rfl⟩ := okWide_slice Try.underlying34 hval
  obtain ⟨fuel, hf⟩ := hd
  rcases open_slice1 Try.underlying34 (by kernel_rfl) hf with ⟨hcs, _⟩ | ⟨a, len, cap, m, n, V, D, Pl, hcs, _, hl, hm, hmm, _, hx⟩
  · simp [Value.cells] at hcs
    obtain ⟨rfl, rfl, rfl⟩ := hcs
    exact ⟨none, 0, [], rfl, by simp, Rs.nil_, by simp⟩
  · simp [Value.cells] at hcs
    obtain ⟨rfl, rfl, rfl⟩ := hcs
    have hlm : len0 ≤ m := by rw [hmm]; split <;> omega
    have sel : ∀ i, i < len0 → ∃ q : Qi, V i = .slice q.a q.l.length q.c ∧ Ns w w.heap.size q.a q.l ∧ q.l.length ≤ maxLen := by
      intro i hi
      obtain ⟨A5, c5, l5, e5, hb, hn⟩ := ints_cell (hx i (by omega)).2
      exact ⟨⟨l5, A5, c5⟩, e5, hb, hn⟩
    obtain ⟨F, hF⟩ := choose_lt sel
    have hlen : ((List.range len0).map F).length = len0 := by simp
    refine ⟨some a, cap0, (List.range len0).map F, by rw [hlen], by rw [hlen]; omega, fun h0 => ?_, fun q hq => ?_⟩
    · have h0 : 0 < len0 := by simpa using h0
      obtain ⟨b, off, spot⟩ := a
      have hs : spot = none := by
        have := World.cell?_spot (hx 0 (by omega)).1
        simpa [Addr.add] using this
      subst hs
      have hb : b < w.heap.size := by
        have c0 := (hx 0 (by omega)).1
        rw [add_plain] at c0
        exact lt_of_cell c0
      refine ⟨b, off, rfl, hb, fun i x hix j u hu => ?_⟩
      rw [List.getElem?_map] at hix
      by_cases hi : i < len0
      · rw [List.getElem?_range hi] at hix
        injection hix with hix
        subst hix
        match j, hu with
        | 0, hu =>
          simp [encQ] at hu
          have c := (hx i (by omega)).1
          rw [add_plain, (hF i hi).1] at c
          rw [Nat.mul_one, Nat.add_zero, ← hu]
          exact c
        | j + 1, hu => simp [encQ] at hu
      · rw [List.getElem?_eq_none (by simpa using hi)] at hix
        cases hix
    · obtain ⟨i, hi, rfl⟩ := List.mem_map.1 hq
      exact (hF i (by simpa using hi)).2
end
namespace Mux
theorem muxPrefers_row (l : List Ch) {w : World} {a a2 : Option Addr} {cap len2 cap2 : Nat} {zs : List Int} (hr : Rs encA 3 w w.heap.size a l) (hl : l.length ≤ maxLen) (hz : Hid (∀ x ∈ l, x.cr = 0 ∧ x.sn = 0)) (h : IsRow .i64 w a2 len2 cap2 zs) :
    Calls Try.prog 6 #[.slice a l.length cap, .slice a2 len2 cap2] w fun e w' => e = .returned (.bool true) ∧ Below w.heap.size w w' := by
  obtain ⟨l2, rfl, hn, _, h1, h2⟩ := IsRow.ints h
  exact muxPrefers_walk l l2 w a l.length cap rfl hr hl hz a2 l2.length cap2 rfl hn (by omega)
end Mux
end Go.Proofs.Ytpfhbojodapomaa
