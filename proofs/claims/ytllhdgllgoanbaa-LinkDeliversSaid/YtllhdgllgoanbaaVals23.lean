/-
  The arguments of the laws of chapter 23: a configuration by value, the calls of a play, a range by value.
-/
import Derived.Test.YtllhdgllgoanbaaRows
import Derived.Test.YtllhdgllgoanbaaRecs
import Derived.Test.YtllhdgllgoanbaaArgAgg
import Derived.Test.YtllhdgllgoanbaaIntArg
import Derived.Test.YtllhdgllgoanbaaLaw23f
import Derived.ChangeSlices
namespace Go.Proofs.Ytllhdgllgoanbaa.Lnk
open Go.RowKit Go.ChangeShapes Go.WideShapes Go.Deep
open Rng (R)

theorem add_plain'' (b off i : Nat) : (⟨b, off, none⟩ : Addr).add i = ⟨b, off + i, none⟩ := by
  by_cases h : i = 0
  · subst h; rfl
  · simp [Addr.add, h]
section
variable {H : Type} {enc' : TypeId × Value → H} {w : World} {base : Nat} {held : Bool}

set_option maxRecDepth 100000 in
theorem open_rngs {fuel : Nat} {v : Value} {y : DataW H × List MemPlace} (hf : DataW.trod enc' Try.prog w base (fun _ => true) held fuel 22 [v] = some y) :
    ∃ a cap, ∃ l : List R, v = .slice a l.length cap ∧ Sl encR 2 w a l.length cap l := by
  rcases open_recs Try.underlying22 Try.underlying53 (hone_of (by kernel_rfl)) (by kernel_rfl) hf with hcs | ⟨a, len, cap, n, V, hcs, hl, hm, hx⟩
  · injection hcs with hcs
    subst hcs
    exact ⟨none, 0, [], rfl, fun h => absurd h (by simp), rfl, fun _ => rfl, Nat.le_refl _, by decide⟩
  · injection hcs with hcs
    subst hcs
    have sel : ∀ i, i < len → ∃ x : R, V i 0 = I x.1 ∧ V i 1 = I x.2 := by
      intro i hi
      obtain ⟨c0, d0, t0⟩ := hx i hi 0 _ rfl
      obtain ⟨c1, d1, t1⟩ := hx i hi 1 _ rfl
      obtain ⟨k, hk, _⟩ := DataW.trod_int Try.underlying3 t0
      obtain ⟨m, hm', _⟩ := DataW.trod_int Try.underlying3 t1
      injection hk with hk
      injection hm' with hm'
      exact ⟨(k, m), hk, hm'⟩
    obtain ⟨F, hF⟩ := choose_lt sel
    have hlen : ((List.range len).map F).length = len := by simp
    refine ⟨some a, cap, (List.range len).map F, by rw [hlen], fun hpos => ?_, rfl, (fun h => nomatch h), by rw [hlen]; exact hl, hm⟩
    rw [hlen] at hpos
    obtain ⟨b, off, spot⟩ := a
    have hs : spot = none := by
      have := World.cell?_spot (hx 0 hpos 0 _ rfl).1
      simpa [Addr.add] using this
    subst hs
    have c00 := (hx 0 hpos 0 _ rfl).1
    rw [add_plain''] at c00
    refine ⟨b, off, rfl, lt_of_cell c00, fun i x hv j u hu => ?_⟩
    rw [List.getElem?_map] at hv
    by_cases hi : i < len
    · rw [List.getElem?_range hi] at hv
      injection hv with hv
      subst hv
      obtain ⟨e0, e1⟩ := hF i hi
      have c0 := (hx i hi 0 _ rfl).1
      have c1 := (hx i hi 1 _ rfl).1
      rw [add_plain''] at c0 c1
      rw [e0] at c0
      rw [e1] at c1
      match j, hu with
      | 0, hu => cases hu; exact c0
      | 1, hu => cases hu; exact c1
    · rw [List.getElem?_eq_none (by simpa using hi)] at hv
      cases hv

set_option maxRecDepth 100000 in
theorem open_flips {fuel : Nat} {v : Value} {y : DataW H × List MemPlace} (hf : DataW.trod enc' Try.prog w base (fun _ => true) held fuel 24 [v] = some y) :
    ∃ a cap, ∃ l : List R, v = .slice a l.length cap ∧ Sl encR 2 w a l.length cap l := by
  rcases open_recs Try.underlying24 Try.underlying57 (hone_of (by kernel_rfl)) (by kernel_rfl) hf with hcs | ⟨a, len, cap, n, V, hcs, hl, hm, hx⟩
  · injection hcs with hcs
    subst hcs
    exact ⟨none, 0, [], rfl, fun h => absurd h (by simp), rfl, fun _ => rfl, Nat.le_refl _, by decide⟩
  · injection hcs with hcs
    subst hcs
    have sel : ∀ i, i < len → ∃ x : R, V i 0 = I x.1 ∧ V i 1 = I x.2 := by
      intro i hi
      obtain ⟨c0, d0, t0⟩ := hx i hi 0 _ rfl
      obtain ⟨c1, d1, t1⟩ := hx i hi 1 _ rfl
      obtain ⟨k, hk, _⟩ := DataW.trod_int Try.underlying3 t0
      obtain ⟨m, hm', _⟩ := DataW.trod_int Try.underlying3 t1
      injection hk with hk
      injection hm' with hm'
      exact ⟨(k, m), hk, hm'⟩
    obtain ⟨F, hF⟩ := choose_lt sel
    have hlen : ((List.range len).map F).length = len := by simp
    refine ⟨some a, cap, (List.range len).map F, by rw [hlen], fun hpos => ?_, rfl, (fun h => nomatch h), by rw [hlen]; exact hl, hm⟩
    rw [hlen] at hpos
    obtain ⟨b, off, spot⟩ := a
    have hs : spot = none := by
      have := World.cell?_spot (hx 0 hpos 0 _ rfl).1
      simpa [Addr.add] using this
    subst hs
    have c00 := (hx 0 hpos 0 _ rfl).1
    rw [add_plain''] at c00
    refine ⟨b, off, rfl, lt_of_cell c00, fun i x hv j u hu => ?_⟩
    rw [List.getElem?_map] at hv
    by_cases hi : i < len
    · rw [List.getElem?_range hi] at hv
      injection hv with hv
      subst hv
      obtain ⟨e0, e1⟩ := hF i hi
      have c0 := (hx i hi 0 _ rfl).1
      have c1 := (hx i hi 1 _ rfl).1
      rw [add_plain''] at c0 c1
      rw [e0] at c0
      rw [e1] at c1
      match j, hu with
      | 0, hu => cases hu; exact c0
      | 1, hu => cases hu; exact c1
    · rw [List.getElem?_eq_none (by simpa using hi)] at hv
      cases hv

set_option maxRecDepth 100000 in
theorem open_nums {fuel : Nat} {v : Value} {y : DataW H × List MemPlace} (hf : DataW.trod enc' Try.prog w base (fun _ => true) held fuel 23 [v] = some y) :
    ∃ a cap, ∃ l : List Int, v = .slice a l.length cap ∧ Sl encI 1 w a l.length cap l := by
  have hrow : ∃ a n c zs, v = .slice a n c ∧ IsRow .i64 w a n c zs := by
    rcases open_ints Try.underlying23 Try.underlying3 (by kernel_rfl) hf with ⟨hcs, _⟩ | ⟨x, n', c', zs, hcs, _, hl', hm'', hz, _, hcell, hwz⟩
    · injection hcs with hcs
      exact ⟨none, 0, 0, [], hcs, .inl ⟨rfl, rfl, rfl, rfl⟩⟩
    · injection hcs with hcs
      exact ⟨some x, n', c', zs, hcs, .inr ⟨x, rfl, hl', hm'', by simpa using hz, hcell, hwz⟩⟩
  obtain ⟨A, n', c', zs, h3, hr⟩ := hrow
  obtain ⟨l, rfl, hns, h1, h2, h4⟩ := Ints.IsRow.ints hr
  exact ⟨A, c', l, h3, Ns_to hns, rfl, h1, h2, h4⟩
/-- a slice of ints that came in -/
theorem Sl_row {a : Option Addr} {len cap : Nat} {zs : List Int} (h : IsRow .i64 w a len cap zs) : ∃ l : List Int, len = l.length ∧ Sl encI 1 w a len cap l := by
  obtain ⟨l, rfl, hns, h1, h2, h4⟩ := Ints.IsRow.ints h
  exact ⟨l, rfl, Ns_to hns, rfl, h1, h2, h4⟩
theorem array4 {cs : Array Value} (h : cs.size = 4) : cs = #[cs.getD 0 undef, cs.getD 1 undef, cs.getD 2 undef, cs.getD 3 undef] := by
  obtain ⟨l⟩ := cs
  match l, h with
  | [x0, x1, x2, x3], _ => rfl
set_option maxRecDepth 100000 in
theorem open_cfg {r : Reach} {b0 : Nat} {v : Value} {d : DataW H} {ps : List MemPlace} (hval : Value.okWide Try.prog w r b0 26 v) (hd : DataW.Trod enc' Try.prog w base (fun _ => true) held 26 v d ps) :
    ∃ (c : Cf) (Ao : Option Addr) (no co : Nat) (Al : Option Addr) (nl cl : Nat) (Af : Option Addr) (nf cf : Nat), v = .agg #[I c.dl, .slice Ao no co, .slice Al nl cl, .slice Af nf cf] ∧ Cg w c Ao no co Al nl cl Af nf cf := by
  obtain ⟨cs, rfl, hsz, n, hf⟩ := open_agg_any Try.underlying26 (hone_of (by kernel_rfl)) (by kernel_rfl) hval hd
  obtain ⟨y0, t0⟩ := hf 0 _ rfl
  obtain ⟨y1, t1⟩ := hf 1 _ rfl
  obtain ⟨y2, t2⟩ := hf 2 _ rfl
  obtain ⟨y3, t3⟩ := hf 3 _ rfl
  have h4 := array4 hsz
  obtain ⟨x0, e0, _⟩ := DataW.trod_int Try.underlying3 t0
  obtain ⟨Ao, co, ot, e1, so⟩ := open_rngs t1
  obtain ⟨Al, cl, lo, e2, sl⟩ := open_nums t2
  obtain ⟨Af, cf, fl, e3, sf⟩ := open_flips t3
  injection e0 with e0
  rw [e0, e1, e2, e3] at h4
  exact ⟨⟨x0, ot, lo, fl⟩, Ao, _, co, Al, _, cl, Af, _, cf, by rw [h4], so, sl, sf⟩
set_option maxRecDepth 100000 in
theorem open_ops23 {r : Reach} {b0 : Nat} {v : Value} {d : DataW H} {ps : List MemPlace} (hval : Value.okWide Try.prog w r b0 27 v) (hd : DataW.Trod enc' Try.prog w base (fun _ => true) held 27 v d ps) :
    ∃ a cap, ∃ l : List Op23, v = .slice a l.length cap ∧ (a = none → cap = 0) ∧ l.length ≤ cap ∧ cap ≤ maxLen ∧ Ops23 w a l := by
  obtain ⟨a0, len0, cap0, rfl⟩ := okWide_slice Try.underlying27 hval
  obtain ⟨fuel, hf⟩ := hd
  rcases open_recs Try.underlying27 Try.underlying41 (hone_of (by kernel_rfl)) (by kernel_rfl) hf with hcs | ⟨a, len, cap, n, V, hcs, hl, hm, hx⟩
  · simp [Value.cells] at hcs
    obtain ⟨rfl, rfl, rfl⟩ := hcs
    exact ⟨none, 0, [], rfl, fun _ => rfl, by simp, by simp, fun i v hv => by simp at hv⟩
  · simp [Value.cells] at hcs
    obtain ⟨rfl, rfl, rfl⟩ := hcs
    have sel : ∀ i, i < len0 → ∃ v : Op23, V i 0 = I v.cl ∧ V i 1 = I v.nw ∧ V i 2 = .slice v.A v.b.length v.c ∧ Lst.Dt w w.heap.size v.b v.A v.c := by
      intro i hi
      obtain ⟨c0, d0, t0⟩ := hx i hi 0 _ rfl
      obtain ⟨c1, d1, t1⟩ := hx i hi 1 _ rfl
      obtain ⟨c2, d2, t2⟩ := hx i hi 2 _ rfl
      obtain ⟨p, hp, _⟩ := DataW.trod_int Try.underlying3 t0
      obtain ⟨q, hq, _⟩ := DataW.trod_int Try.underlying3 t1
      have hrow : ∃ a n c zs, V i 2 = .slice a n c ∧ IsRow .u8 w a n c zs := by
        rcases open_ints Try.underlying39 Try.underlying5 (by kernel_rfl) t2 with ⟨hcs, _⟩ | ⟨x, n', c', zs, hcs, _, hl', hm'', hz, _, hcell, hwz⟩
        · injection hcs with hcs
          exact ⟨none, 0, 0, [], hcs, .inl ⟨rfl, rfl, rfl, rfl⟩⟩
        · injection hcs with hcs
          exact ⟨some x, n', c', zs, hcs, .inr ⟨x, rfl, hl', hm'', by simpa using hz, hcell, hwz⟩⟩
      obtain ⟨A, n', c', zs, h3, hr⟩ := hrow
      obtain ⟨B, rfl, hb, hn, hlc, hcm⟩ := hr.bytes
      injection hp with hp
      injection hq with hq
      exact ⟨⟨p, q, A, c', B⟩, hp, hq, h3, ⟨hb, hn, hlc, hcm⟩⟩
    obtain ⟨F, hF⟩ := choose_lt sel
    have hlen : ((List.range len0).map F).length = len0 := by simp
    refine ⟨some a, cap0, (List.range len0).map F, by rw [hlen], (fun h => nomatch h), by rw [hlen]; exact hl, hm, fun i v hv => ?_⟩
    rw [List.getElem?_map] at hv
    by_cases hi : i < len0
    · rw [List.getElem?_range hi] at hv
      injection hv with hv
      subst hv
      obtain ⟨e0, e1, e2, ok⟩ := hF i hi
      have c0 := (hx i hi 0 _ rfl).1
      have c1 := (hx i hi 1 _ rfl).1
      have c2 := (hx i hi 2 _ rfl).1
      obtain ⟨b, off, spot⟩ := a
      have hs : spot = none := by
        have := World.cell?_spot (hx 0 (by omega) 0 _ rfl).1
        simpa [Addr.add] using this
      subst hs
      rw [add_plain''] at c0 c1 c2
      rw [e0] at c0
      rw [e1] at c1
      rw [e2] at c2
      exact ⟨b, off, rfl, lt_of_cell c0, c0, c1, c2, ok⟩
    · rw [List.getElem?_eq_none (by simpa using hi)] at hv
      cases hv
end
end Go.Proofs.Ytllhdgllgoanbaa.Lnk
