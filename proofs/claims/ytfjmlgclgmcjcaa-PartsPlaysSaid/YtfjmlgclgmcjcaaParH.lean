/-
  Slices of packets in a world: the packets and their data, read through an address. No dump is imported.
-/
import Derived.Test.YtfjmlgclgmcjcaaRowH
import Derived.Test.YtfjmlgclgmcjcaaParMath
namespace Go.Proofs.Ytfjmlgclgmcjcaa.Par
open Go.RowKit Go.Proofs.Ytfjmlgclgmcjcaa.Row
open Pac (Pk)

/-- a packet as it lies in memory: the address and the capacity of its data beside it -/
structure Qp where
  p : Pk
  a : Option Addr
  c : Nat
def enc (q : Qp) : List Value := [.bool q.p.com, .bool q.p.sec, .int .i64 q.p.ap, .int .i64 q.p.fl, .int .i64 q.p.ct, .slice q.a q.p.d.length q.c]
theorem enc_ok : Enc enc 6 := ⟨fun _ => rfl, fun x u hu => by
  simp only [enc, List.mem_cons, List.not_mem_nil, or_false] at hu
  rcases hu with rfl | rfl | rfl | rfl | rfl | rfl <;> rfl, by decide⟩
/-- the data of a packet, below block B -/
structure Dt (w : World) (B : Nat) (d : List Byte) (a : Option Addr) (c : Nat) : Prop where
  b : Bs w B a d
  n : a = none → c = 0
  l : d.length ≤ c
  m : c ≤ maxLen
section
variable {w w' : World} {B B' : Nat} {d : List Byte} {a A : Option Addr} {c : Nat} {S : List Nat} {ps : List Pk}
theorem Dt.below (h : Dt w B d a c) (k : Below B w w') : Dt w' B d a c := ⟨h.b.below k, h.n, h.l, h.m⟩
theorem Dt.more (h : Dt w B d a c) (k : B ≤ B') : Dt w B' d a c := ⟨h.b.more k, h.n, h.l, h.m⟩
theorem Dt.only (h : Dt w B d a c) (k : Only S w w') (hB : B ≤ w.heap.size) (hS : ∀ x ∈ S, B ≤ x) : Dt w' B d a c := h.below (k.below hB hS)
theorem Dt.draws (h : Dt w B d a c) (n : Nat) : Dt (w.drewN n) B d a c := ⟨h.b, h.n, h.l, h.m⟩
theorem Dt.drew (h : Dt w B d a c) : Dt w.drew B d a c := ⟨h.b, h.n, h.l, h.m⟩
/-- later, wherever -/
theorem Dt.later (h : Dt w w.heap.size d a c) (k : Below w.heap.size w w') : Dt w' w'.heap.size d a c := (h.below k).more k.size
theorem Dt_own {base : Nat} {e : TypeId} {v : Value} (h : Ow w base e v d) : ∃ a c, v = .slice a d.length c ∧ Dt w w.heap.size d a c := by
  obtain ⟨a, c, rfl, hb, hn, hl, hm⟩ := h.reads
  exact ⟨a, c, rfl, hb, hn, hl, hm⟩

/-- 'A' leads to the packets ps; they and their data lie below block B -/
def PS (w : World) (B : Nat) (A : Option Addr) (ps : List Pk) : Prop := ∃ qs : List Qp, qs.map (·.p) = ps ∧ Rs enc 6 w B A qs ∧ ∀ q ∈ qs, Dt w B q.p.d q.a q.c
theorem PS.nil_ : PS w B A [] := ⟨[], rfl, Rs.nil_, fun q hq => by cases hq⟩
theorem PS.below (h : PS w B A ps) (k : Below B w w') : PS w' B A ps := by
  obtain ⟨qs, h1, h2, h3⟩ := h
  exact ⟨qs, h1, h2.below k, fun q hq => (h3 q hq).below k⟩
theorem PS.more (h : PS w B A ps) (k : B ≤ B') : PS w B' A ps := by
  obtain ⟨qs, h1, h2, h3⟩ := h
  exact ⟨qs, h1, h2.more k, fun q hq => (h3 q hq).more k⟩
theorem PS.only (h : PS w B A ps) (k : Only S w w') (hB : B ≤ w.heap.size) (hS : ∀ x ∈ S, B ≤ x) : PS w' B A ps := h.below (k.below hB hS)
theorem PS.draws (h : PS w B A ps) (n : Nat) : PS (w.drewN n) B A ps := h.below ⟨rfl, rfl, rfl, Nat.le_refl _, fun _ _ => rfl⟩
theorem PS.drew (h : PS w B A ps) : PS w.drew B A ps := h.below ⟨rfl, rfl, rfl, Nat.le_refl _, fun _ _ => rfl⟩
theorem PS.at_ (h : PS w B A ps) {i : Nat} {p : Pk} (hp : ps[i]? = some p) : ∃ b off a c, A = some ⟨b, off, none⟩ ∧ b < B ∧ w.cell? ⟨b, off + i * 6, none⟩ = some (.bool p.com) ∧ w.cell? ⟨b, off + i * 6 + 1, none⟩ = some (.bool p.sec) ∧
    w.cell? ⟨b, off + i * 6 + 2, none⟩ = some (.int .i64 p.ap) ∧ w.cell? ⟨b, off + i * 6 + 3, none⟩ = some (.int .i64 p.fl) ∧ w.cell? ⟨b, off + i * 6 + 4, none⟩ = some (.int .i64 p.ct) ∧ w.cell? ⟨b, off + i * 6 + 5, none⟩ = some (.slice a p.d.length c) ∧ Dt w B p.d a c := by
  obtain ⟨qs, rfl, h2, h3⟩ := h
  rw [List.getElem?_map] at hp
  cases hq : qs[i]? with
  | none => rw [hq] at hp; cases hp
  | some q =>
    rw [hq] at hp
    injection hp with hp
    subst hp
    have hil := (List.getElem?_eq_some_iff.1 hq).1
    obtain ⟨b, off, rfl, hb, hc⟩ := h2 (by omega)
    exact ⟨b, off, q.a, q.c, rfl, hb, hc i q hq 0 _ rfl, hc i q hq 1 _ rfl, hc i q hq 2 _ rfl, hc i q hq 3 _ rfl, hc i q hq 4 _ rfl, hc i q hq 5 _ rfl, h3 q (List.mem_of_getElem? hq)⟩
end
end Go.Proofs.Ytfjmlgclgmcjcaa.Par
