/-
  Slices of structs whose fields may be structs themselves: the cells of each element, and what each cell of one field holds, however deep. No dump is imported.
-/
import Derived.Test.YtaaikmncdgfkmaaBytes
import Derived.OpenShut
import Derived.Deep.Slices
import Derived.Deep.Fields
import Derived.WideShapes
namespace Go.Proofs.Ytaaikmncdgfkmaa
open Go.RowKit Go.ChangeShapes Go.WideShapes Go.Deep

section
variable {H : Type} {enc : TypeId × Value → H} {P : Program} {w : World} {base : Nat} {spare : Nat → Bool} {held : Bool}

/-- cell j of whatever reads as a value of type e reads as a value of type t -/
def Leaf (enc : TypeId × Value → H) (P : Program) (w : World) (base : Nat) (spare : Nat → Bool) (held : Bool) (e : TypeId) (j : Nat) (t : TypeId) : Prop :=
  ∀ (n : Nat) (cs : List Value) (x : DataW H × List MemPlace), DataW.trod enc P w base spare held n e cs = some x → ∃ m y, DataW.trod enc P w base spare held m t [cs.getD j undef] = some y
theorem Leaf.one {e : TypeId} {fs : Array Field} {i : Nat} {f : Field} (he : P.underlying e = some (.struct fs)) (hi : fs[i]? = some f) (hc : P.cellsOf f.type = 1) (ho : f.offset < P.cellsOf e) : Leaf enc P w base spare held e f.offset f.type := by
  intro n cs x h
  obtain ⟨xs, m, _, _, hl, hxl, hg⟩ := DataW.trod_struct he h
  have g := hg i f hi
  have hil : i < fs.size := (Array.getElem?_eq_some_iff.1 hi).1
  rw [hc, take1_drop cs f.offset undef (by omega)] at g
  exact ⟨m, xs[i]'(by omega), by rw [g]; exact List.getElem?_eq_getElem (by omega)⟩
theorem Leaf.sub {e t : TypeId} {fs : Array Field} {i k : Nat} {f : Field} (he : P.underlying e = some (.struct fs)) (hi : fs[i]? = some f) (hk : k < P.cellsOf f.type) (h : Leaf enc P w base spare held f.type k t) : Leaf enc P w base spare held e (f.offset + k) t := by
  intro n cs x hx
  obtain ⟨xs, m, _, _, hl, hxl, hg⟩ := DataW.trod_struct he hx
  have g := hg i f hi
  have hil : i < fs.size := (Array.getElem?_eq_some_iff.1 hi).1
  obtain ⟨m', y, hy⟩ := h m _ (xs[i]'(by omega)) (by rw [g]; exact List.getElem?_eq_getElem (by omega))
  refine ⟨m', y, ?_⟩
  have e1 : ((cs.drop f.offset).take (P.cellsOf f.type)).getD k undef = cs.getD (f.offset + k) undef := by
    rw [List.getD_eq_getElem?_getD, List.getD_eq_getElem?_getD, List.getElem?_take, if_pos hk, List.getElem?_drop]
  rw [← e1]
  exact hy
/-- the elements of a slice, cell by cell -/
theorem open_cells {t e : TypeId} {fuel C : Nat} {cs : List Value} {x : DataW H × List MemPlace} (ht : P.underlying t = some (.slice e)) (hC : P.cellsOf e = C) (h : DataW.trod enc P w base spare held fuel t cs = some x) :
    cs = [.slice none 0 0] ∨ ∃ (a : Addr) (len cap : Nat) (L : Nat → List Value), cs = [.slice (some a) len cap] ∧ len ≤ cap ∧ cap ≤ maxLen ∧
      ∀ i, i < len → (∀ j, j < C → w.cell? (a.add (i * C + j)) = some ((L i).getD j undef)) ∧ ∃ n y, DataW.trod enc P w base spare held n e (L i) = some y := by
  rcases open_slice ht h with ⟨h0, _⟩ | ⟨a, len, cap, m, n, D, Pl, rfl, hb, hl, hm, hmm, rfl, hx⟩
  · exact .inl h0
  have hlm : len ≤ m := by rw [hmm]; split <;> omega
  have each : ∀ i, i < len → ∃ L : List Value, (∀ j, j < C → w.cell? (a.add (i * C + j)) = some (L.getD j undef)) ∧ ∃ n y, DataW.trod enc P w base spare held n e L = some y := by
    intro i hi
    obtain ⟨cs', h1, h2⟩ := hx i (by omega)
    rw [hC] at h1
    obtain ⟨_, hlen, hcell⟩ := World.cells?_some h1
    refine ⟨cs', fun j hj => ?_, _, _, h2⟩
    have c := hcell j hj
    rw [add_add] at c
    rw [c, List.getD_eq_getElem?_getD, List.getElem?_eq_getElem (by omega)]
    rfl
  obtain ⟨L, hL⟩ := choose_lt each
  exact .inr ⟨a, len, cap, L, rfl, hl, hm, hL⟩
end
end Go.Proofs.Ytaaikmncdgfkmaa
