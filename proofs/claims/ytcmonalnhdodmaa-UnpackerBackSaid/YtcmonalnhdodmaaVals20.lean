/-
  The argument of the law UnpackerPlays: a slice of data fields.
-/
import Derived.Test.YtcmonalnhdodmaaRows
import Derived.Test.YtcmonalnhdodmaaRecs
import Derived.Test.YtcmonalnhdodmaaRd
import Derived.ChangeSlices
namespace Go.Proofs.Ytcmonalnhdodmaa.Unp
open Go.RowKit Go.ChangeShapes Go.WideShapes Go.Deep

/-- a data field -/
structure O20 where
  p : Int
  q : Int
  A : Option Addr
  c : Nat
  b : List Byte
instance : Inhabited O20 := ⟨⟨0, 0, none, 0, []⟩⟩
/-- 'a' leads to the data fields l, three cells each -/
def Ops20 (w : World) (a : Option Addr) (l : List O20) : Prop :=
  ∀ i v, l[i]? = some v → ∃ b off, a = some ⟨b, off, none⟩ ∧ b < w.heap.size ∧ w.cell? ⟨b, off + i * 3, none⟩ = some (.int .i64 v.p) ∧ w.cell? ⟨b, off + i * 3 + 1, none⟩ = some (.int .i64 v.q) ∧
    w.cell? ⟨b, off + i * 3 + 2, none⟩ = some (.slice v.A v.b.length v.c) ∧ Rd w v.A v.b v.b.length v.c

section
variable {H : Type} {enc : TypeId × Value → H} {w : World} {base : Nat} {held : Bool}
set_option maxRecDepth 100000 in
theorem open_ops20 {r : Reach} {b0 : Nat} {v : Value} {d : DataW H} {ps : List MemPlace} (hval : Value.okWide Try.prog w r b0 22 v) (hd : DataW.Trod enc Try.prog w base (fun _ => true) held 22 v d ps) :
    ∃ a cap, ∃ l : List O20, v = .slice a l.length cap ∧ (a = none → cap = 0) ∧ l.length ≤ cap ∧ cap ≤ maxLen ∧ Ops20 w a l := by
  obtain ⟨a0, len0, cap0, rfl⟩ := okWide_slice Try.underlying22 hval
  obtain ⟨fuel, hf⟩ := hd
  rcases open_recs Try.underlying22 Try.underlying30 (hone_of (by kernel_rfl)) (by kernel_rfl) hf with hcs | ⟨a, len, cap, n, V, hcs, hl, hm, hx⟩
  · simp [Value.cells] at hcs
    obtain ⟨rfl, rfl, rfl⟩ := hcs
    exact ⟨none, 0, [], rfl, fun _ => rfl, by simp, by simp, fun i v hv => by simp at hv⟩
  · simp [Value.cells] at hcs
    obtain ⟨rfl, rfl, rfl⟩ := hcs
    have sel : ∀ i, i < len0 → ∃ v : O20, V i 0 = .int .i64 v.p ∧ V i 1 = .int .i64 v.q ∧ V i 2 = .slice v.A v.b.length v.c ∧ Rd w v.A v.b v.b.length v.c := by
      intro i hi
      obtain ⟨c0, d0, t0⟩ := hx i hi 0 _ rfl
      obtain ⟨c1, d1, t1⟩ := hx i hi 1 _ rfl
      obtain ⟨c2, d2, t2⟩ := hx i hi 2 _ rfl
      obtain ⟨p, hp, _⟩ := DataW.trod_int Try.underlying3 t0
      obtain ⟨q, hq, _⟩ := DataW.trod_int Try.underlying3 t1
      have hrow : ∃ a n c zs, V i 2 = .slice a n c ∧ IsRow .u8 w a n c zs := by
        rcases open_ints Try.underlying26 Try.underlying5 (by kernel_rfl) t2 with ⟨hcs, _⟩ | ⟨x, n', c', zs, hcs, _, hl', hm'', hz, _, hcell, hwz⟩
        · injection hcs with hcs
          exact ⟨none, 0, 0, [], hcs, .inl ⟨rfl, rfl, rfl, rfl⟩⟩
        · injection hcs with hcs
          exact ⟨some x, n', c', zs, hcs, .inr ⟨x, rfl, hl', hm'', by simpa using hz, hcell, hwz⟩⟩
      obtain ⟨A, n', c', zs, h3, hr⟩ := hrow
      obtain ⟨B, rfl, hb, hn, hlc, hcm⟩ := hr.bytes
      injection hp with hp
      injection hq with hq
      exact ⟨⟨p, q, A, c', B⟩, hp, hq, h3, ⟨rfl, hb, hn, hlc, hcm⟩⟩
    obtain ⟨F, hF⟩ := choose_lt sel
    have hlen : ((List.range len0).map F).length = len0 := by simp
    refine ⟨some a, cap0, (List.range len0).map F, by rw [hlen], (fun h => nomatch h), by rw [hlen]; exact hl, hm, fun i v hv => ?_⟩
    rw [List.getElem?_map] at hv
    by_cases hi : i < len0
    · rw [List.getElem?_range hi] at hv
      injection hv with hv
      subst hv
      obtain ⟨e0, e1, e2, ok⟩ := hF i hi
      have c0 := (hx i hi 0 _ rfl).1
      have c1 := (hx i hi 1 _ rfl).1
      have c2 := (hx i hi 2 _ rfl).1
      obtain ⟨b, off, spot⟩ := a
      have hs : spot = none := by
        have := World.cell?_spot (hx 0 (by omega) 0 _ rfl).1
        simpa [Addr.add] using this
      subst hs
      rw [add_plain] at c0 c1 c2
      rw [e0] at c0
      rw [e1] at c1
      rw [e2] at c2
      exact ⟨b, off, rfl, lt_of_cell c0, c0, c1, c2, ok⟩
    · rw [List.getElem?_eq_none (by simpa using hi)] at hv
      cases hv
end

end Go.Proofs.Ytcmonalnhdodmaa.Unp
