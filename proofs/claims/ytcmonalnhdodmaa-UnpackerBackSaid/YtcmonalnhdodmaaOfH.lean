/-
  Words for byte slices beside each other: a slice that begins within its row read as bytes (Md.rd), kept while other blocks are written (Rd.put), of none of some blocks (Of); an append of no bytes.
-/
import Derived.Test.YtcmonalnhdodmaaMid
import Derived.Test.YtcmonalnhdodmaaPut12
namespace Go.Proofs.Ytcmonalnhdodmaa
open Go.RowKit

section
variable {w w' : World} {base n c g : Nat} {A : Option Addr} {l : List Byte} {S F F' : List Nat}
theorem Md.off {e t : TypeId} {cs : Array Value} (h : Md w base e A n c l) (k : Cel w g t cs) (ht : e ≠ t) : g ∉ blkA A := fun hm => by
  obtain ⟨cs', hc⟩ := h.cel g hm
  exact hc.apart k ht rfl
theorem Md.rd (h : Md w base 5 A n c l) : Rd w A l n c := by
  obtain ⟨h1, h2, h3, h4⟩ := h.reads
  exact ⟨h.1, h1, h2, h3, h4⟩
theorem Rd.put (h : Rd w A l n c) (k : Only S w w') (ha : ∀ x ∈ blkA A, x ∉ S) : Rd w' A l n c := by
  cases A with
  | none => exact ⟨h.len, (fun hl => by obtain ⟨b, off, e, _⟩ := h.bs hl; cases e), h.nil, h.le, h.max⟩
  | some a =>
    refine ⟨h.len, fun hl => ?_, h.nil, h.le, h.max⟩
    obtain ⟨b, off, e, hb, hc⟩ := h.bs hl
    have hbS : b ∉ S := ha b (by rw [e]; simp [blkA])
    refine ⟨b, off, e, Nat.lt_of_lt_of_le hb k.size, fun i x hx => ?_⟩
    rw [← hc i x hx]
    unfold World.cell?
    simp only [k.block b hb hbS]
/-- where an address leads is none of the blocks F, and is there -/
def Of (w : World) (A : Option Addr) (F : List Nat) : Prop := ∀ x ∈ blkA A, x ∉ F ∧ x < w.heap.size
theorem Of.next (h : Of w A F) (hs : w.heap.size ≤ w'.heap.size) (hF : ∀ x ∈ F', x ∈ F ∨ w.heap.size ≤ x) : Of w' A F' := fun x hx => by
  obtain ⟨h1, h2⟩ := h x hx
  refine ⟨fun hm => ?_, by omega⟩
  rcases hF x hm with h3 | h3
  · exact h1 h3
  · omega
theorem Of.later (h : Of w A F) (hs : w.heap.size ≤ w'.heap.size) : Of w' A F := h.next hs (fun _ hx => .inl hx)
theorem Of.new (h : Ow w' w.heap.size 5 (.slice A n c) l) (hF : ∀ x ∈ F, x < w.heap.size) : Of w' A F := fun x hx => by
  rw [blkA_own A n c] at hx
  have := h.lt x (by simpa using hx)
  exact ⟨fun hm => by have := hF x hm; omega, this.2⟩
theorem Rd.off (h : Rd w A l n c) (k : Only F w w') (ho : Of w A F) : Rd w' A l n c := Rd.put h k (fun x hx => (ho x hx).1)
/-- what a slice expression 's[k:]' leaves -/
theorem Rd.drop (h : Rd w A l n c) {k : Nat} (hk : k ≤ n) : Rd w (if c = k then A else A.map (fun x => x.add k)) (l.drop k) (n - k) (c - k) := by
  have hl := h.len
  have hle := h.le
  have hmx := h.max
  refine ⟨by rw [List.length_drop, hl], fun h0 => ?_, fun e => ?_, by omega, by omega⟩
  · rw [List.length_drop] at h0
    obtain ⟨b, off, rfl, hb, hc⟩ := h.bs (by omega)
    rw [if_neg (by omega)]
    refine ⟨b, off + k, by simp [Addr.add], hb, fun i x hx => ?_⟩
    rw [List.getElem?_drop] at hx
    have := hc _ x hx
    rw [← Nat.add_assoc] at this
    exact this
  · split at e
    · have := h.nil e; omega
    · cases A with
      | none => have := h.nil rfl; omega
      | some a => cases e
/-- append of no bytes -/
theorem run_mid0 {P : Program} {t e ty : TypeId} (hT : IsBytes P t e) (h : Md w base e A n c l) (A2 : Option Addr) (c2 : Nat) :
    (Builtin.append_ #[t, t] ty #[.slice A n c, .slice A2 0 c2]).run P w = .ok (.slice A n c) w := by
  obtain ⟨ht, _, i, hi, hz, h1, h2⟩ := hT
  have hle := h.reads.2.2.1
  have hf : (Builtin.firstCells 1 0 (.slice A2 0 c2)).run P w = .ok #[] w := by
    cases A2 with
    | none => rfl
    | some a => rfl
  cases A with
  | none => simp [Builtin.append_, run_underlying ht, sizeOf, typeInfo, hi, h1, Builtin.lenOf, hf, hle]
  | some a =>
    have hst : (storeCells (a.add n) []).run P w = .ok () w := rfl
    simp [Builtin.append_, run_underlying ht, sizeOf, typeInfo, hi, h1, Builtin.lenOf, hf, hle, hst]
end
/-- append of bytes, their length as a number -/
theorem wpList_appN {P : Program} (w : World) {t e : TypeId} (hT : IsBytes P t e) {ops : Array Oper} {rest : List Oper} {o : Oper} {a : Act} {Q : Exit → Act → World → Prop} (hgd : o.guard = none) (s x : Operand)
    (ho : o.op = .call { callee := .builtin .append, args := #[s, x], argTypes := #[t, t] })
    {base : Nat} {v : Value} {m : List Byte} (hs : a.eval s = v) (hown : Ow w base e v m)
    {B n : Nat} {A : Option Addr} {l : List Byte} {c : Nat} (hl : l.length = n) (hx : a.eval x = .slice A n c) (hr : Bs w B A l) (hn : A = none → c = 0) (h47 : m.length + n ≤ 140737488355328) (hbase : base ≤ w.heap.size)
    (h : ∀ v' w', Ow w' base e v' (m ++ l) → w.grownBy w' v.ownBlock → (v'.ownBlock = v.ownBlock ∨ v'.ownBlock = some w.heap.size) → wpList P ops Q rest (a.put o.dst v') w') : wpList P ops Q (o :: rest) a w := by
  subst hl
  exact wpList_appAt w hT hgd s x ho hs hown hx hr hn h47 hbase h
end Go.Proofs.Ytcmonalnhdodmaa
