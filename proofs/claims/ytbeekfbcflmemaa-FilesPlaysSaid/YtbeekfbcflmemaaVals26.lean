/-
  The calls of FilesPlays: a slice of structs (int, string, bytes); the argument opened.
-/
import Derived.Test.YtbeekfbcflmemaaRecs
import Derived.Test.YtbeekfbcflmemaaArgAgg
import Derived.Test.YtbeekfbcflmemaaLeaf
import Derived.Test.YtbeekfbcflmemaaLaw26a
import Derived.ChangeSlices
namespace Go.Proofs.Ytbeekfbcflmemaa.Fil
open Go.RowKit Go.ChangeShapes Go.WideShapes Go.Deep
open Lst (Dt)

/-- a call -/
structure Op26 where
  call : Int
  name : Nm
  data : List Byte
/-- element k of the slice that A leads to -/
structure OA (w : World) (B : Nat) (A : Option Addr) (b off k : Nat) (o : Op26) (a : Option Addr) (n c : Nat) : Prop where
  e : A = some ⟨b, off, none⟩
  hb : b < B
  c0 : w.cell? ⟨b, off + k * 3, none⟩ = some (I o.call)
  c1 : w.cell? ⟨b, off + k * 3 + 1, none⟩ = some (.string (nm o.name))
  c2 : w.cell? ⟨b, off + k * 3 + 2, none⟩ = some (.slice a n c)
  len : o.data.length = n
  dt : Dt w B o.data a c
theorem OA.below {w w' : World} {B b off k n c : Nat} {A a : Option Addr} {o : Op26} (h : OA w B A b off k o a n c) (t : Below B w w') : OA w' B A b off k o a n c :=
  ⟨h.e, h.hb, (t.cell h.hb).trans h.c0, (t.cell h.hb).trans h.c1, (t.cell h.hb).trans h.c2, h.len, h.dt.below t⟩
def Ops (w : World) (B : Nat) (A : Option Addr) (l : List Op26) : Prop := ∀ k o, l[k]? = some o → ∃ b off a n c, OA w B A b off k o a n c

theorem add_plain26 (b off i : Nat) : (⟨b, off, none⟩ : Addr).add i = ⟨b, off + i, none⟩ := by
  by_cases h : i = 0
  · subst h; rfl
  · simp [Addr.add, h]
section
variable {H : Type} {enc' : TypeId × Value → H} {w : World} {base : Nat} {held : Bool}
abbrev LeafOp (enc' : TypeId × Value → H) (w : World) (base : Nat) (held : Bool) (j : Nat) (t : TypeId) : Prop := Leaf enc' Try.prog w base (fun _ => true) held 32 j t
theorem o0 : LeafOp enc' w base held 0 3 := Leaf.one (i := 0) Try.underlying32 rfl (by kernel_rfl) (of_decide_eq_true (by kernel_rfl))
theorem o1 : LeafOp enc' w base held 1 9 := Leaf.one (i := 1) Try.underlying32 rfl (by kernel_rfl) (of_decide_eq_true (by kernel_rfl))
theorem o2 : LeafOp enc' w base held 2 30 := Leaf.one (i := 2) Try.underlying32 rfl (by kernel_rfl) (of_decide_eq_true (by kernel_rfl))

theorem open_ops26 {r : Reach} {b0 : Nat} {v : Value} {d : DataW H} {ps : List MemPlace} (hval : Value.okWide Try.prog w r b0 22 v) (hd : DataW.Trod enc' Try.prog w base (fun _ => true) held 22 v d ps) :
    ∃ a cap, ∃ l : List Op26, v = .slice a l.length cap ∧ (a = none → cap = 0) ∧ l.length ≤ cap ∧ cap ≤ maxLen ∧ Ops w w.heap.size a l := by
  obtain ⟨a0, len0, cap0, rfl⟩ := okWide_slice Try.underlying22 hval
  obtain ⟨fuel, hf⟩ := hd
  rcases open_cells (C := 3) Try.underlying22 (by kernel_rfl) hf with hcs | ⟨a, len, cap, L, hcs, hl, hm, hx⟩
  · simp [Value.cells] at hcs
    obtain ⟨rfl, rfl, rfl⟩ := hcs
    exact ⟨none, 0, [], rfl, fun _ => rfl, by simp, by simp, fun k o h => by simp at h⟩
  · simp [Value.cells] at hcs
    obtain ⟨rfl, rfl, rfl⟩ := hcs
    have sel : ∀ i, i < len0 → ∃ q : Op26 × Option Addr × Nat, ((L i).getD 0 undef = I q.1.call ∧ (L i).getD 1 undef = .string (nm q.1.name) ∧ (L i).getD 2 undef = .slice q.2.1 q.1.data.length q.2.2) ∧ Dt w w.heap.size q.1.data q.2.1 q.2.2 := by
      intro i hi
      obtain ⟨_, n, y, t⟩ := hx i hi
      obtain ⟨_, _, t0⟩ := o0 n _ _ t
      obtain ⟨_, _, t1⟩ := o1 n _ _ t
      obtain ⟨_, _, t2⟩ := o2 n _ _ t
      obtain ⟨x0, e0, _⟩ := DataW.trod_int Try.underlying3 t0
      obtain ⟨s1, e1, _⟩ := DataW.trod_string Try.underlying9 t1
      obtain ⟨A5, l5, c5', e5, hb, hn, hlc, hcm⟩ := open_bytes_cell Try.underlying30 Try.underlying5 (by kernel_rfl) t2
      obtain ⟨x1, rfl⟩ := nm_of s1
      injection e0 with e0
      injection e1 with e1
      exact ⟨(⟨x0, x1, l5⟩, A5, c5'), ⟨e0, e1, e5⟩, hb, hn, hlc, hcm⟩
    have : Inhabited (Op26 × Option Addr × Nat) := ⟨(⟨0, [], []⟩, none, 0)⟩
    obtain ⟨F, hF⟩ := choose_lt sel
    have hlen : ((List.range len0).map (fun i => (F i).1)).length = len0 := by simp
    refine ⟨some a, cap0, (List.range len0).map (fun i => (F i).1), by rw [hlen], (fun h => nomatch h), by rw [hlen]; exact hl, hm, fun i o hv => ?_⟩
    rw [List.getElem?_map] at hv
    by_cases hi : i < len0
    · rw [List.getElem?_range hi] at hv
      injection hv with hv
      subst hv
      obtain ⟨b, off, spot⟩ := a
      have hs : spot = none := by
        have := World.cell?_spot ((hx 0 (by omega)).1 0 (by decide))
        simpa [Addr.add] using this
      subst hs
      have c0 := (hx i hi).1 0 (by decide)
      have c1 := (hx i hi).1 1 (by decide)
      have c2 := (hx i hi).1 2 (by decide)
      rw [add_plain26] at c0 c1 c2
      obtain ⟨⟨e0, e1, e2⟩, hb⟩ := hF i hi
      rw [e0] at c0
      rw [e1] at c1
      rw [e2] at c2
      simp only [Nat.add_zero, ← Nat.add_assoc] at c0 c1 c2
      exact ⟨b, off, (F i).2.1, _, (F i).2.2, rfl, lt_of_cell c0, c0, c1, c2, rfl, hb⟩
    · rw [List.getElem?_eq_none (by simpa using hi)] at hv
      cases hv
end
end Go.Proofs.Ytbeekfbcflmemaa.Fil
