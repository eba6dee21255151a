/-
  The reference of layer 24: Decode, its state.
-/
import Derived.Test.YtjjfamkljcipgaaPduD
import Derived.Test.YtjjfamkljcipgaaPduMath3
import Derived.Test.YtjjfamkljcipgaaRef03d
import Derived.Test.YtjjfamkljcipgaaRef24e
namespace Go.Proofs.Ytjjfamkljcipgaa.Pdu
open Go.RowKit Go.Proofs.Ytjjfamkljcipgaa.Row

theorem rdec_results {tmps : Array Value} {W : World} {g : Nat} {x0 x1 x2 x3 x4 x5 x6 x7 x8 x9 x10 y : Value} (h2 : tmps.getD 2 undef = .pointer (some ⟨g, 0, none⟩)) (h3 : tmps.getD 3 undef = y) (hC : Cel W g 29 #[x0, x1, x2, x3, x4, x5, x6, x7, x8, x9, x10]) :
    (results Try.f17 tmps).run Try.prog W = .ok (.tuple #[.agg #[x0, x1, x2, x3, x4, x5, x6, x7, x8, x9, x10], y]) W := by
  have c0 := hC.cell 0
  have c1 := hC.cell 1
  have c2 := hC.cell 2
  have c3 := hC.cell 3
  have c4 := hC.cell 4
  have c5 := hC.cell 5
  have c6 := hC.cell 6
  have c7 := hC.cell 7
  have c8 := hC.cell 8
  have c9 := hC.cell 9
  have c10 := hC.cell 10
  simp at c0 c1 c2 c3 c4 c5 c6 c7 c8 c9 c10
  simp only [Array.getD_eq_getD_getElem?] at h2 h3
  simp [results, Try.results17, go_sem, h2, h3, c0, c1, c2, c3, c4, c5, c6, c7, c8, c9, c10]
/-- what stands in the heap while the reference reads a unit: its Reader, the result's cells, the unit's cells; all made behind w0 -/
structure VS (w0 : World) (g : Nat) (st : Option (List Byte)) (r p : Nat) (cs : Array Value) (w : World) : Prop where
  o : YR w w0.heap.size g st
  cr : Cel w r 29 #[I 0, I 0, I 0, I 0, .string ⟨#[]⟩, I 0, I 0, .slice none 0 0, .int .u32 0, I 0, .slice none 0 0]
  cp : Cel w p 29 cs
  b : Below w0.heap.size w0 w
  hp : w0.heap.size ≤ p
  hr : w0.heap.size ≤ r
  ne : r ≠ p
section
variable {w0 w w' : World} {g r p : Nat} {st st' : Option (List Byte)} {cs : Array Value}
theorem YR.cel_ne {B q : Nat} {t : TypeId} {ds : Array Value} (h : YR w B g st) (hc : Cel w q t ds) (ht : t ≠ 65) : q ≠ g := by
  obtain ⟨A, n, c, hg, _⟩ := h
  exact hc.apart hg ht
theorem VS.step (h : VS w0 g st r p cs w) (o : YR w' w0.heap.size g st') (k : Only [g] w w') : VS w0 g st' r p cs w' := by
  have hg := h.o.lt.1
  exact ⟨o, h.cr.only k (by simpa using YR.cel_ne h.o h.cr (by decide)), h.cp.only k (by simpa using YR.cel_ne h.o h.cp (by decide)), h.b.trans (k.below h.b.size (by simpa using hg)), h.hp, h.hr, h.ne⟩
theorem VS.put (h : VS w0 g st r p cs w) (i : Nat) (u : Value) : VS w0 g st r p (cs.setIfInBounds i u) (w.setCell ⟨p, i, none⟩ u) := by
  have kS := set_only w p i u
  have hp := h.hp
  exact ⟨h.o.only kS (by simpa using fun e => YR.cel_ne h.o h.cp (by decide) e.symm) (by simpa using hp), h.cr.only kS (by simpa using h.ne), h.cp.put i u, h.b.trans (kS.below h.b.size (by simpa using hp)), h.hp, h.hr, h.ne⟩
theorem VS.on (h : VS w0 g st r p cs w) (k : Below w.heap.size w w') : VS w0 g st r p cs w' :=
  ⟨h.o.below k, Cel.on h.cr k, Cel.on h.cp k, h.b.trans (k.mono h.b.size), h.hp, h.hr, h.ne⟩
theorem VS.draws (h : VS w0 g st r p cs w) (n : Nat) : VS w0 g st r p cs (w.drewN n) := ⟨h.o.draws n, h.cr.draws n, h.cp.draws n, below_drewN h.b n, h.hp, h.hr, h.ne⟩
theorem VS.drew (h : VS w0 g st r p cs w) : VS w0 g st r p cs w.drew := ⟨h.o.drew, h.cr, h.cp, h.b.drew, h.hp, h.hr, h.ne⟩
theorem VS.grow {v : Value} {L : List R} (h : VS w0 g st r p cs w) (ho : Row.Os encR 2 w w0.heap.size 41 v L) (k : Only v.ownBlock.toList w w') : VS w0 g st r p cs w' := by
  have hm : ∀ x, x ∈ v.ownBlock.toList → v.ownBlock = some x := fun x hx => by simpa using hx
  have nr := Row.Os.apart ho h.cr (by decide)
  have np := Row.Os.apart ho h.cp (by decide)
  have ng : v.ownBlock ≠ some g := by
    obtain ⟨A, n, c, hg, _⟩ := h.o
    exact Row.Os.apart ho hg (by decide)
  exact ⟨h.o.only k (fun hx => ng (hm _ hx)) (fun x hx => Row.Os.base_le ho x (hm _ hx)), h.cr.only k (fun hx => nr (hm _ hx)), h.cp.only k (fun hx => np (hm _ hx)), h.b.trans (k.below h.b.size (fun x hx => Row.Os.base_le ho x (hm x hx))), h.hp, h.hr, h.ne⟩
/-- ranges of the call's own stay where the Reader is written -/
theorem VS.os {v : Value} {L : List R} {base : Nat} (h : VS w0 g st r p cs w) (ho : Row.Os encR 2 w base 41 v L) (k : Only [g] w w') : Row.Os encR 2 w' base 41 v L := by
  refine Row.Os.only ho k (fun i hi hx => ?_)
  have ng : v.ownBlock ≠ some g := by
    obtain ⟨A, n, c, hg, _⟩ := h.o
    exact Row.Os.apart ho hg (by decide)
  simp at hx
  exact ng (hx ▸ hi)
end
theorem en_no' {p : Pd} (h : ok p = false) : enO p = [] ∧ enE p = 1 := by simp [enO, enE, h]
theorem en_yes' {p : Pd} (h : ok p = true) : enO p = enc p ∧ enE p = 0 := by simp [enO, enE, h]
theorem lft_eq (st : Option (List Byte)) : lftO st = lft st := rfl
end Go.Proofs.Ytjjfamkljcipgaa.Pdu
