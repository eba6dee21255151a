/-
  The arguments of layer 21's laws: a slice of steps (a uint8 and two ints), a struct of three ints and such a slice.
-/
import Derived.Test.YtdccfiobcejngaaRows
import Derived.Test.YtdccfiobcejngaaRecs
import Derived.Test.YtdccfiobcejngaaArgAgg
import Derived.Test.YtdccfiobcejngaaLaw21c
import Derived.ChangeSlices
namespace Go.Proofs.Ytdccfiobcejngaa
open Go.RowKit Go.ChangeShapes Go.WideShapes Go.Deep
open Buc (Sp)

theorem u8_nonneg {k : Int} (h : (Lit.int .u8 k).wf = true) : 0 ≤ k := by
  unfold Lit.wf at h
  rw [Bool.and_eq_true] at h
  have h1 := of_decide_eq_true h.1
  have e : IntKind.u8.min = 0 := by decide
  rw [e] at h1
  exact h1
theorem u32_nonneg {k : Int} (h : (Lit.int .u32 k).wf = true) : 0 ≤ k := by
  unfold Lit.wf at h
  rw [Bool.and_eq_true] at h
  have h1 := of_decide_eq_true h.1
  have e : IntKind.u32.min = 0 := by decide
  rw [e] at h1
  exact h1

section
variable {H : Type} {enc : TypeId × Value → H} {w : World} {base : Nat} {held : Bool}

theorem steps_cell {n : Nat} {v : Value} {y : DataW H × List MemPlace} (hf : DataW.trod enc Try.prog w base (fun _ => true) held n 22 [v] = some y) :
    ∃ a cap, ∃ l : List (Int × Int × Int), v = .slice a l.length cap ∧ Sp w w.heap.size a l := by
  rcases open_recs Try.underlying22 Try.underlying32 (hone_of (by kernel_rfl)) (by kernel_rfl) hf with hcs | ⟨a, len0, cap0, n, V, hcs, hl, hm, hx⟩
  · injection hcs with hcs
    exact ⟨none, 0, [], hcs, fun h => by simp at h⟩
  · injection hcs with hcs
    subst hcs
    have sel : ∀ i, i < len0 → ∃ x : Int × Int × Int, V i 0 = .int .u8 x.1 ∧ V i 1 = .int .i64 x.2.1 ∧ V i 2 = .int .i64 x.2.2 ∧ 0 ≤ x.1 := by
      intro i hi
      obtain ⟨c0, d0, t0⟩ := hx i hi 0 _ rfl
      obtain ⟨c1, d1, t1⟩ := hx i hi 1 _ rfl
      obtain ⟨c2, d2, t2⟩ := hx i hi 2 _ rfl
      obtain ⟨k, hk, _, hw⟩ := DataW.trod_int Try.underlying5 t0
      obtain ⟨m, hm', _, _⟩ := DataW.trod_int Try.underlying3 t1
      obtain ⟨q, hq, _, _⟩ := DataW.trod_int Try.underlying3 t2
      injection hk with hk
      injection hm' with hm'
      injection hq with hq
      refine ⟨(k, m, q), hk, hm', hq, ?_⟩
      exact u8_nonneg hw
    obtain ⟨F, hF⟩ := choose_lt sel
    have hlen : ((List.range len0).map F).length = len0 := by simp
    have hat : ∀ i x, ((List.range len0).map F)[i]? = some x → i < len0 ∧ x = F i := by
      intro i x hv
      rw [List.getElem?_map] at hv
      by_cases hi : i < len0
      · rw [List.getElem?_range hi] at hv
        injection hv with hv
        exact ⟨hi, hv.symm⟩
      · rw [List.getElem?_eq_none (by simpa using hi)] at hv
        cases hv
    refine ⟨some a, cap0, (List.range len0).map F, by rw [hlen], fun hpos => ?_⟩
    rw [hlen] at hpos
    obtain ⟨b, off, spot⟩ := a
    have hs : spot = none := by
      have := World.cell?_spot (hx 0 hpos 0 _ rfl).1
      simpa [Addr.add] using this
    subst hs
    have c00 := (hx 0 hpos 0 _ rfl).1
    rw [add_plain] at c00
    refine ⟨b, off, rfl, lt_of_cell c00, fun i x hv => ?_⟩
    obtain ⟨hi, rfl⟩ := hat i x hv
    obtain ⟨e0, e1, e2, e3⟩ := hF i hi
    have c0 := (hx i hi 0 _ rfl).1
    have c1 := (hx i hi 1 _ rfl).1
    have c2 := (hx i hi 2 _ rfl).1
    rw [add_plain] at c0 c1 c2
    rw [e0] at c0
    rw [e1] at c1
    rw [e2] at c2
    exact ⟨c0, c1, c2, e3⟩

theorem open_steps21 {r : Reach} {b0 : Nat} {v : Value} {d : DataW H} {ps : List MemPlace} (hval : Value.okWide Try.prog w r b0 22 v) (hd : DataW.Trod enc Try.prog w base (fun _ => true) held 22 v d ps) :
    ∃ a cap, ∃ l : List (Int × Int × Int), v = .slice a l.length cap ∧ Sp w w.heap.size a l := by
  obtain ⟨a0, len0, cap0, rfl⟩ := okWide_slice Try.underlying22 hval
  obtain ⟨fuel, hf⟩ := hd
  exact steps_cell hf
/-- four cells -/
theorem array4 {cs : Array Value} (h : cs.size = 4) : cs = #[cs.getD 0 undef, cs.getD 1 undef, cs.getD 2 undef, cs.getD 3 undef] := by
  obtain ⟨l⟩ := cs
  match l, h with
  | [x0, x1, x2, x3], _ => rfl
theorem open_ask21 {r : Reach} {b0 : Nat} {v : Value} {d : DataW H} {ps : List MemPlace} (hval : Value.okWide Try.prog w r b0 41 v) (hd : DataW.Trod enc Try.prog w base (fun _ => true) held 41 v d ps) :
    ∃ (x z m : Int) (a : Option Addr) (cap : Nat) (l : List (Int × Int × Int)), v = .agg #[.int .i64 x, .int .i64 z, .int .i64 m, .slice a l.length cap] ∧ Sp w w.heap.size a l := by
  obtain ⟨cs, rfl, hsz, n, hf⟩ := open_agg_any Try.underlying41 (hone_of (by kernel_rfl)) (by kernel_rfl) hval hd
  have h4 := array4 (hsz.trans rfl)
  obtain ⟨y0, t0⟩ := hf 0 _ rfl
  obtain ⟨y1, t1⟩ := hf 1 _ rfl
  obtain ⟨y2, t2⟩ := hf 2 _ rfl
  obtain ⟨y3, t3⟩ := hf 3 _ rfl
  obtain ⟨x0, e0, _⟩ := DataW.trod_int Try.underlying3 t0
  obtain ⟨x1, e1, _⟩ := DataW.trod_int Try.underlying3 t1
  obtain ⟨x2, e2, _⟩ := DataW.trod_int Try.underlying3 t2
  obtain ⟨a, cap, l, e3, hs⟩ := steps_cell t3
  injection e0 with e0
  injection e1 with e1
  injection e2 with e2
  rw [e0, e1, e2, e3] at h4
  exact ⟨x0, x1, x2, a, cap, l, by rw [h4], hs⟩
end
end Go.Proofs.Ytdccfiobcejngaa
