/-
  Two words: a block that is known whole (Cel), and 'of the old blocks only those of a list may have turned' (Only); what a walk wants of both. No dump is imported.
-/
import Derived.Test.YtaaikmncdgfkmaaOwn
import Derived.OneCell
import Derived.Deep.Draws
import Derived.OwnWalk
namespace Go.Proofs.Ytaaikmncdgfkmaa
open Go.RowKit

/-- block g is just the cells cs of element type t, none of them frozen -/
def Cel (w : World) (g : Nat) (t : TypeId) (cs : Array Value) : Prop := w.heap[g]? = some (.cells cs t (0, 0))

/-- of the blocks that w has, w' may differ in those of the list S alone -/
structure Only (S : List Nat) (w w' : World) : Prop where
  os : w'.os = w.os
  tape : w'.tape = w.tape
  output : w'.output = w.output
  size : w.heap.size ≤ w'.heap.size
  block : ∀ k, k < w.heap.size → k ∉ S → w'.heap[k]? = w.heap[k]?

section
variable {w w' w2 : World} {g : Nat} {t : TypeId} {cs : Array Value} {S T : List Nat}

theorem Cel.lt (h : Cel w g t cs) : g < w.heap.size := lt_of_block h
theorem Cel.cell (h : Cel w g t cs) (i : Nat) : w.cell? ⟨g, i, none⟩ = cs[i]? := by unfold Cel at h; simp [World.cell?, h]
theorem Cel.free (h : Cel w g t cs) (i : Nat) : w.frozen? ⟨g, i, none⟩ = false := by unfold Cel at h; simp [World.frozen?, h]
theorem Cel.new (w : World) (t : TypeId) (cs : Array Value) : Cel (w.alloc (.cells cs t)) w.heap.size t cs := heap_alloc_new w _
theorem Cel.draws (h : Cel w g t cs) (n : Nat) : Cel (w.drewN n) g t cs := h
theorem Cel.put (h : Cel w g t cs) (i : Nat) (u : Value) : Cel (w.setCell ⟨g, i, none⟩ u) g t (cs.setIfInBounds i u) := by
  have hl := h.lt
  unfold Cel at h ⊢
  rw [Array.getElem?_eq_getElem hl] at h
  injection h with h
  show (w.heap.modify g _)[g]? = _
  rw [Array.getElem?_eq_getElem (by simpa using hl), Array.getElem_modify_self, h]
  rfl
theorem Cel.apart {g' : Nat} {t' : TypeId} {cs' : Array Value} (h : Cel w g t cs) (k : Cel w g' t' cs') (ht : t ≠ t') : g ≠ g' := by
  intro e
  subst e
  have : some (Obj.cells cs t (0, 0)) = some (.cells cs' t' (0, 0)) := h.symm.trans k
  simp at this
  exact ht this.2
theorem Cel.only (h : Cel w g t cs) (k : Only S w w') (hg : g ∉ S) : Cel w' g t cs := (k.block g h.lt hg).trans h

theorem Cel.grown {o : Obj} {row : Option Nat} (h : Cel w g t cs) (k : (w.alloc o).grownBy w' row) (hne : row ≠ some g) : Cel w' g t cs :=
  (k.block g (by have := h.lt; simp; omega) (fun e => hne e.symm)).trans ((Below.heap_alloc w o g h.lt).trans h)
theorem Only.refl (S : List Nat) (w : World) : Only S w w := ⟨rfl, rfl, rfl, Nat.le_refl _, fun _ _ _ => rfl⟩
theorem Only.trans (h : Only S w w') (k : Only T w' w2) (hT : ∀ x ∈ T, x ∈ S ∨ w.heap.size ≤ x) : Only S w w2 :=
  ⟨k.os.trans h.os, k.tape.trans h.tape, k.output.trans h.output, Nat.le_trans h.size k.size, fun i hi hn =>
    (k.block i (Nat.lt_of_lt_of_le hi h.size) fun hx => (hT i hx).elim (fun e => hn e) (fun e => by omega)).trans (h.block i hi hn)⟩
theorem Only.more (h : Only S w w') (hS : ∀ x ∈ S, x ∈ T ∨ w.heap.size ≤ x) : Only T w w' :=
  ⟨h.os, h.tape, h.output, h.size, fun i hi hn => h.block i hi fun hx => (hS i hx).elim (fun e => hn e) (fun e => by omega)⟩
theorem Only.below (h : Only S w w') {B : Nat} (hB : B ≤ w.heap.size) (hS : ∀ x ∈ S, B ≤ x) : Below B w w' :=
  ⟨h.os, h.tape, h.output, h.size, fun i hi => h.block i (by omega) fun hx => by have := hS i hx; omega⟩
theorem Only.of_below (h : Below w.heap.size w w') : Only S w w' := ⟨h.os, h.tape, h.output, h.size, fun i hi _ => h.block i hi⟩
theorem Only.of_grown {row : Option Nat} (h : w.grownBy w' row) : Only row.toList w w' :=
  ⟨h.os, h.tape, h.output, h.size, fun i hi hn => h.block i hi fun e => hn (by rw [← e]; simp)⟩
theorem Only.alloc (h : Only S w w') (o : Obj) : Only S w (w'.alloc o) :=
  h.trans (T := []) ⟨rfl, rfl, rfl, by simp, fun k hk _ => Below.heap_alloc _ _ _ hk⟩ (by simp)
theorem Only.put (h : Only S w w') {p : Addr} (hp : p.block ∈ S ∨ w.heap.size ≤ p.block) (u : Value) : Only S w (w'.setCell p u) :=
  h.trans (T := [p.block]) ⟨rfl, rfl, rfl, by simp [World.setCell], fun k _ hn => Below.heap_setCell _ _ _ _ (fun e => hn (by simp [e]))⟩ (by simpa using hp)
theorem Only.draws (h : Only S w w') (n : Nat) : Only S w (w'.drewN n) := ⟨h.os, h.tape, h.output, h.size, h.block⟩
theorem Only.drew (h : Only S w w') : Only S w w'.drew := ⟨h.os, h.tape, h.output, h.size, h.block⟩

variable {base size : Nat} {e : TypeId} {v : Value} {l : List Byte} {n : Nat} {xs : List Value}
theorem own_only (h : w.ownsRow base e size v n xs) (k : Only S w w') (hS : ∀ i, v.ownBlock = some i → i ∉ S) : w'.ownsRow base e size v n xs := by
  refine ⟨h.1, ?_⟩
  rcases h.2 with h2 | ⟨g, cap, cur, rfl, hb, hg, rest⟩
  · exact .inl h2
  · exact .inr ⟨g, cap, cur, rfl, hb, (k.block g (lt_of_block hg) (hS g rfl)).trans hg, rest⟩
theorem Ow.only (h : Ow w base e v l) (k : Only S w w') (hS : ∀ i, v.ownBlock = some i → i ∉ S) : Ow w' base e v l := own_only h k hS
theorem Ow.below (h : Ow w base e v l) (hb : Below w.heap.size w w') : Ow w' base e v l := h.only (Only.of_below (S := []) hb) (by simp)
theorem Ow.draws (h : Ow w base e v l) (n : Nat) : Ow (w.drewN n) base e v l := h
theorem own_lt (h : w.ownsRow base e size v n xs) : ∀ i, v.ownBlock = some i → base ≤ i ∧ i < w.heap.size := h.lt
theorem Ow.lt (h : Ow w base e v l) : ∀ i, v.ownBlock = some i → base ≤ i ∧ i < w.heap.size := World.ownsRow.lt h
theorem own_apart (h : w.ownsRow base e size v n xs) (k : Cel w g t cs) (ht : e ≠ t) : v.ownBlock ≠ some g := by
  rcases h.2 with ⟨rfl, _⟩ | ⟨g', cap, cur, rfl, _, hg, _⟩
  · simp [Value.ownBlock]
  · intro he
    injection he with he
    exact Cel.apart (t := e) hg k ht he
theorem Ow.apart (h : Ow w base e v l) (k : Cel w g t cs) (ht : e ≠ t) : v.ownBlock ≠ some g := own_apart h k ht
theorem Ow.reads_len (h : Ow w base e v l) (hl : l.length = n) : ∃ A c, v = .slice A n c ∧ Bs w w.heap.size A l ∧ (A = none → c = 0) ∧ n ≤ c ∧ c ≤ maxLen := by
  subst hl; exact h.reads
theorem Ow.form_len (h : Ow w base e v l) {m : Nat} (hl : l.length = m + 1) : ∃ gr c, v = .slice (some ⟨gr, 0, none⟩) (m + 1) c ∧ base ≤ gr ∧ gr < w.heap.size ∧ m + 1 ≤ c ∧ c ≤ maxLen ∧
    (∀ i x, l[i]? = some x → w.cell? ⟨gr, i, none⟩ = some (B8 x)) ∧ ∀ i, w.frozen? ⟨gr, i, none⟩ = false := by
  have hcells := fun g (hv : v.ownBlock = some g) => h.cells (g := g) hv
  rcases h.2 with ⟨rfl, h0⟩ | ⟨g, cap, cur, rfl, hb, hh, hn, hm, _⟩
  · omega
  · refine ⟨g, cap, by rw [hl], hb, lt_of_block hh, by omega, hm, fun i x hx => ?_, fun i => Cel.free (t := e) hh i⟩
    have := hcells g rfl i (B8 x) (by simp [hx])
    rcases Nat.eq_zero_or_pos i with rfl | hi
    · simpa [Addr.add] using this
    · have hne : i ≠ 0 := by omega
      simpa [Addr.add, hne] using this
theorem Ow.more (h : Ow w base e v l) {b' : Nat} (hb : b' ≤ base) : Ow w b' e v l := by
  refine ⟨h.1, ?_⟩
  rcases h.2 with h2 | ⟨g, cap, cur, hv, hg, rest⟩
  · exact .inl h2
  · exact .inr ⟨g, cap, cur, hv, by omega, rest⟩
theorem Bs.only {B : Nat} {a : Option Addr} (h : Bs w B a l) (k : Only S w w') (hB : B ≤ w.heap.size) (hS : ∀ x ∈ S, B ≤ x) : Bs w' B a l := h.below (k.below hB hS)

/-- the last byte of a slice of the call's own, written in place -/
theorem Ow.set_ (h : Ow w base e v l) {gr i : Nat} (hv : v.ownBlock = some gr) (x : Byte) : Ow (w.setCell ⟨gr, i, none⟩ (B8 x)) base e v (l.set i x) := by
  obtain ⟨h1, h2⟩ := h
  refine ⟨by simp, ?_⟩
  rcases h2 with ⟨rfl, _⟩ | ⟨g, cap, cur, rfl, hb, hg, hn, hm, hs, ht⟩
  · cases hv
  · injection hv with hv
    have hv' : g = gr := hv
    subst hv'
    refine .inr ⟨g, cap, cur.setIfInBounds i (B8 x), by simp, hb, Cel.put (t := e) hg i (B8 x), by simpa using hn, hm, by simpa using hs, ?_⟩
    rw [Array.toList_setIfInBounds, List.take_set, List.length_set]
    rw [ht, List.map_set]
end
end Go.Proofs.Ytaaikmncdgfkmaa
