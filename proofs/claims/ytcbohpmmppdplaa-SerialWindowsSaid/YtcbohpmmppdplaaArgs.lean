/-
  Arguments opened: an array of integers by value; a slice of structs of two one-cell fields. No dump is imported.
-/
import Derived.Test.YtcbohpmmppdplaaBytes
import Derived.OpenShut
import Derived.Deep.SlicePairs
import Derived.WideShapes
namespace Go.Proofs.Ytcbohpmmppdplaa
open Go.RowKit Go.ChangeShapes Go.WideShapes Go.Deep

theorem list_two {α : Type} {l : List α} (h : l.length = 2) : ∃ x y, l = [x, y] := by
  match l, h with
  | [x, y], _ => exact ⟨x, y, rfl⟩
theorem list_three {α : Type} {l : List α} (h : l.length = 3) : ∃ x y z, l = [x, y, z] := by
  match l, h with
  | [x, y, z], _ => exact ⟨x, y, z, rfl⟩
section
variable {H : Type} {enc : TypeId × Value → H} {P : Program} {w : World} {base : Nat} {spare : Nat → Bool} {held : Bool}

theorem open_array_ints {r : Reach} {b0 n : Nat} {t e : TypeId} {k : IntKind} {v : Value} {d : DataW H} {ps : List MemPlace} (ht : P.underlying t = some (.array n e)) (he : P.underlying e = some (.int k)) (ce : P.cellsOf e = 1) (ct : P.cellsOf t = n)
    (hval : Value.okWide P w r b0 t v) (hd : DataW.Trod enc P w base spare held t v d ps) : ∃ xs : List Int, v = .agg (xs.map (Value.int k)).toArray ∧ xs.length = n ∧ ∀ (i : Nat) (x : Int), xs[i]? = some x → (Lit.int k x).wf = true := by
  simp only [Value.okWide, ht] at hval
  obtain ⟨cs, rfl, hsz, _⟩ := hval
  rw [ct] at hsz
  obtain ⟨fuel, hf⟩ := hd
  obtain ⟨ys, m, _, _, _, hyl, hy⟩ := DataW.trod_array ht hf
  have each : ∀ i, i < n → ∃ x, cs[i]? = some (.int k x) ∧ (Lit.int k x).wf = true := by
    intro i hi
    have h1 := hy i hi
    have hyi : ys[i]? = some ys[i] := List.getElem?_eq_getElem (by omega)
    rw [ce, Nat.mul_one, hyi] at h1
    obtain ⟨x, hx, _, hw⟩ := DataW.trod_int he h1
    refine ⟨x, ?_, hw⟩
    have hcl : (Value.agg cs).cells.toList = cs.toList := rfl
    rw [hcl, List.drop_eq_getElem_cons (by simp; omega)] at hx
    simp at hx
    rw [Array.getElem?_eq_getElem (by omega), hx]
  have hmap : cs = ((cs.toList.map intOf).map (Value.int k)).toArray := by
    apply Array.ext
    · simp
    · intro i h1 h2
      obtain ⟨x, hx, _⟩ := each i (by omega)
      rw [Array.getElem?_eq_getElem h1] at hx
      injection hx with hx
      simp [hx, intOf]
  refine ⟨cs.toList.map intOf, by rw [← hmap], by simp [hsz], fun i x hx => ?_⟩
  rw [List.getElem?_map] at hx
  by_cases hi : i < n
  · obtain ⟨y, hy2, hw⟩ := each i hi
    simp [hy2, intOf] at hx
    rw [← hx]; exact hw
  · rw [List.getElem?_eq_none (by simp; omega)] at hx
    cases hx

/-- 'a' leads to the pairs l, two cells each -/
def Prs {α β : Type} (w : World) (a : Option Addr) (g0 : α → Value) (g1 : β → Value) (l : List (α × β)) : Prop :=
  ∀ i f, l[i]? = some f → ∃ b off, a = some ⟨b, off, none⟩ ∧ b < w.heap.size ∧ w.cell? ⟨b, off + i * 2, none⟩ = some (g0 f.1) ∧ w.cell? ⟨b, off + i * 2 + 1, none⟩ = some (g1 f.2)

theorem Prs.below {α β : Type} {w w' : World} {a : Option Addr} {g0 : α → Value} {g1 : β → Value} {l : List (α × β)} (h : Prs w a g0 g1 l) (hb : Below w.heap.size w w') : Prs w' a g0 g1 l := by
  intro i f hf
  obtain ⟨b, off, ha, hl, c0, c1⟩ := h i f hf
  exact ⟨b, off, ha, Nat.lt_of_lt_of_le hl hb.size, (hb.cell (p := ⟨b, off + i * 2, none⟩) hl).trans c0, (hb.cell (p := ⟨b, off + i * 2 + 1, none⟩) hl).trans c1⟩

theorem open_pairs {α β : Type} [Inhabited α] [Inhabited β] {g0 : α → Value} {g1 : β → Value} {p0 : α → Prop} {p1 : β → Prop} {r : Reach} {b0 : Nat} {t e : TypeId} {f0 f1 : Field} {v : Value} {d : DataW H} {ps : List MemPlace}
    (ht : P.underlying t = some (.slice e)) (he : P.underlying e = some (.struct #[f0, f1]))
    (ce : P.cellsOf e = 2) (o0 : f0.offset = 0) (o1 : f1.offset = 1) (c0 : P.cellsOf f0.type = 1) (c1 : P.cellsOf f1.type = 1)
    (H0 : ∀ n V y, DataW.trod enc P w base spare held n f0.type [V] = some y → ∃ x, V = g0 x ∧ p0 x) (H1 : ∀ n V y, DataW.trod enc P w base spare held n f1.type [V] = some y → ∃ x, V = g1 x ∧ p1 x)
    (hval : Value.okWide P w r b0 t v) (hd : DataW.Trod enc P w base spare held t v d ps) :
    ∃ a cap, ∃ l : List (α × β), v = .slice a l.length cap ∧ (a = none → cap = 0) ∧ l.length ≤ cap ∧ cap ≤ maxLen ∧ Prs w a g0 g1 l ∧ ∀ f ∈ l, p0 f.1 ∧ p1 f.2 := by
  obtain ⟨a0, len0, cap0, rfl⟩ := okWide_slice ht hval
  obtain ⟨fuel, hf⟩ := hd
  rcases open_slice_pairs ht he ce o0 o1 c0 c1 hf with ⟨hcs, _⟩ | ⟨a, len, cap, m, n, V0, V1, D0, D1, P0, P1, hcs, _, hl, hm, hmm, _, hcell⟩
  · simp [Value.cells] at hcs
    obtain ⟨rfl, rfl, rfl⟩ := hcs
    exact ⟨none, 0, [], rfl, fun _ => rfl, by simp, by simp, fun i f hf => by simp at hf, by simp⟩
  · simp [Value.cells] at hcs
    obtain ⟨rfl, rfl, rfl⟩ := hcs
    have hlm : len0 ≤ m := by rw [hmm]; split <;> omega
    have e0 : ∀ i, i < m → ∃ x, V0 i = g0 x ∧ p0 x := fun i hi => H0 n _ _ (hcell i hi).2.2.1
    have e1 : ∀ i, i < m → ∃ x, V1 i = g1 x ∧ p1 x := fun i hi => H1 n _ _ (hcell i hi).2.2.2
    have sel : ∀ i, ∃ f : α × β, i < m → V0 i = g0 f.1 ∧ p0 f.1 ∧ V1 i = g1 f.2 ∧ p1 f.2 := by
      intro i
      by_cases hi : i < m
      · obtain ⟨x, h1, h2⟩ := e0 i hi
        obtain ⟨y, h3, h4⟩ := e1 i hi
        exact ⟨(x, y), fun _ => ⟨h1, h2, h3, h4⟩⟩
      · exact ⟨(default, default), fun h => absurd h hi⟩
    let F := fun i => Classical.choose (sel i)
    have hF : ∀ i, i < m → V0 i = g0 (F i).1 ∧ p0 (F i).1 ∧ V1 i = g1 (F i).2 ∧ p1 (F i).2 := fun i => Classical.choose_spec (sel i)
    have hlen : ((List.range len0).map F).length = len0 := by simp
    refine ⟨some a, cap0, (List.range len0).map F, by rw [hlen], by simp, by rw [hlen]; exact hl, hm, fun i f hf => ?_, fun f hf => ?_⟩
    · rw [List.getElem?_map] at hf
      by_cases hi : i < len0
      · rw [List.getElem?_range hi] at hf
        injection hf with hf
        subst hf
        obtain ⟨q0, q1, _, _⟩ := hcell i (by omega)
        obtain ⟨s0, _, s1, _⟩ := hF i (by omega)
        rw [s0] at q0
        rw [s1] at q1
        obtain ⟨b, off, spot⟩ := a
        have hs : spot = none := by
          have := World.cell?_spot (hcell 0 (by omega)).1
          simpa [Addr.add] using this
        subst hs
        refine ⟨b, off, rfl, ?_, ?_, ?_⟩
        · have := lt_of_cell q1
          rw [show ((⟨b, off, none⟩ : Addr).add (i * 2 + 1)).block = b by simp [Addr.add]] at this
          exact this
        · by_cases h0 : i = 0
          · subst h0; simpa [Addr.add] using q0
          · have hne : i * 2 ≠ 0 := by omega
            simpa only [Addr.add, hne, if_false] using q0
        · have h2 : (⟨b, off, none⟩ : Addr).add (i * 2 + 1) = ⟨b, off + i * 2 + 1, none⟩ := by simp [Addr.add, Nat.add_assoc]
          rw [h2] at q1
          exact q1
      · rw [List.getElem?_eq_none (by simpa using hi)] at hf
        cases hf
    · obtain ⟨i, hi, rfl⟩ := List.mem_map.1 hf
      have := hF i (by have := List.mem_range.1 hi; omega)
      exact ⟨this.2.1, this.2.2.2⟩
end
end Go.Proofs.Ytcbohpmmppdplaa
