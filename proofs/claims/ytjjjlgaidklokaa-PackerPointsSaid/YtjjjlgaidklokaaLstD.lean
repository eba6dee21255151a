/-
  What an address leads to, read through blocks of which a condition D holds (so that it stays while only other blocks are written): bytes (Dd), a slice of byte strings (LD).
-/
import Derived.Test.YtjjjlgaidklokaaLstH
import Derived.Test.YtjjjlgaidklokaaRd
import Derived.Test.YtjjjlgaidklokaaMid
namespace Go.Proofs.Ytjjjlgaidklokaa.Lst
open Go.RowKit Go.Proofs.Ytjjjlgaidklokaa.Row

/-- the blocks of which D holds are as they were -/
structure Kd (D : Nat → Prop) (w w' : World) : Prop where
  s : w.heap.size ≤ w'.heap.size
  b : ∀ i, i < w.heap.size → D i → w'.heap[i]? = w.heap[i]?
section
variable {D D' : Nat → Prop} {w w' w2 : World} {S : List Nat} {l : List Byte} {a A : Option Addr} {c n : Nat} {ls : List (List Byte)}
theorem Kd.of_below (h : Below w.heap.size w w') : Kd D w w' := ⟨h.size, fun i hi _ => h.block i hi⟩
theorem Kd.of_only (h : Only S w w') (hS : ∀ i, i < w.heap.size → D i → i ∉ S) : Kd D w w' := ⟨h.size, fun i hi hd => h.block i hi (hS i hi hd)⟩
theorem Kd.cell (h : Kd D w w') {p : Addr} (hp : p.block < w.heap.size) (hd : D p.block) : w'.cell? p = w.cell? p := by
  unfold World.cell?
  rw [h.b p.block hp hd]

/-- (a, l.length, c) leads to the bytes l, by a block of which D holds -/
structure Dd (w : World) (D : Nat → Prop) (l : List Byte) (a : Option Addr) (c : Nat) : Prop where
  b : 0 < l.length → ∃ b off, a = some ⟨b, off, none⟩ ∧ b < w.heap.size ∧ D b ∧ ∀ i x, l[i]? = some x → w.cell? ⟨b, off + i, none⟩ = some (B8 x)
  n : a = none → c = 0
  l : l.length ≤ c
  m : c ≤ maxLen
theorem Dd.keep (h : Dd w D l a c) (k : Kd D w w') : Dd w' D l a c := ⟨fun hl => by
  obtain ⟨b, off, e, hb, hd, hc⟩ := h.b hl
  exact ⟨b, off, e, Nat.lt_of_lt_of_le hb k.s, hd, fun i x hx => (k.cell (p := ⟨b, off + i, none⟩) hb hd).trans (hc i x hx)⟩, h.n, h.l, h.m⟩
theorem Dd.imp (h : Dd w D l a c) (hD : ∀ b, b < w.heap.size → D b → D' b) : Dd w D' l a c := ⟨fun hl => by
  obtain ⟨b, off, e, hb, hd, hc⟩ := h.b hl
  exact ⟨b, off, e, hb, hD b hb hd, hc⟩, h.n, h.l, h.m⟩
theorem Dd.rd (h : Dd w D l a c) (hn : l.length = n) : Rd w a l n c := ⟨hn, fun hl => by
  obtain ⟨b, off, e, hb, _, hc⟩ := h.b hl
  exact ⟨b, off, e, hb, hc⟩, h.n, by rw [← hn]; exact h.l, h.m⟩
theorem Dd.own {base : Nat} {e : TypeId} (h : Ow w base e (.slice a n c) l) (hn : l.length = n) (hD : ∀ b, base ≤ b → b < w.heap.size → D b) : Dd w D l a c := by
  have hm := Md.of h hn
  obtain ⟨hb, h0, hl, hx⟩ := hm.reads
  refine ⟨fun hp => ?_, h0, by rw [hn]; exact hl, hx⟩
  obtain ⟨b, off, rfl, hlt, hc⟩ := hb hp
  exact ⟨b, off, rfl, hlt, hD b (hm.lt b (by simp [blkA])).1 hlt, hc⟩
theorem Dd.nil_ (w : World) (D : Nat → Prop) : Dd w D [] none 0 := ⟨fun h => absurd h (by simp), fun _ => rfl, by simp, by decide⟩

/-- (A, n, c) leads to the byte strings ls; they and their slices lie in blocks of which D holds -/
structure LD (w : World) (D : Nat → Prop) (A : Option Addr) (n c : Nat) (ls : List (List Byte)) : Prop where
  ex : ∃ qs : List Qb, qs.map (·.l) = ls ∧
    (0 < qs.length → ∃ b off, A = some ⟨b, off, none⟩ ∧ b < w.heap.size ∧ D b ∧ ∀ i q, qs[i]? = some q → w.cell? ⟨b, off + i, none⟩ = some (.slice q.a q.l.length q.c)) ∧ ∀ q ∈ qs, Dd w D q.l q.a q.c
  len : ls.length = n
  nil : A = none → c = 0
  le : n ≤ c
  max : c ≤ maxLen
theorem LD.nil_ (w : World) (D : Nat → Prop) : LD w D none 0 0 [] := ⟨⟨[], rfl, (fun h => absurd h (by simp)), (fun q hq => nomatch hq)⟩, rfl, fun _ => rfl, Nat.le_refl _, by decide⟩
theorem LD.keep (h : LD w D A n c ls) (k : Kd D w w') : LD w' D A n c ls := by
  obtain ⟨⟨qs, h1, h2, h3⟩, h4, h5, h6, h7⟩ := h
  refine ⟨⟨qs, h1, fun hl => ?_, fun q hq => (h3 q hq).keep k⟩, h4, h5, h6, h7⟩
  obtain ⟨b, off, e, hb, hd, hc⟩ := h2 hl
  exact ⟨b, off, e, Nat.lt_of_lt_of_le hb k.s, hd, fun i q hq => (k.cell (p := ⟨b, off + i, none⟩) hb hd).trans (hc i q hq)⟩
theorem LD.below (h : LD w D A n c ls) (k : Below w.heap.size w w') : LD w' D A n c ls := h.keep (.of_below k)
theorem LD.imp (h : LD w D A n c ls) (hD : ∀ b, b < w.heap.size → D b → D' b) : LD w D' A n c ls := by
  obtain ⟨⟨qs, h1, h2, h3⟩, h4, h5, h6, h7⟩ := h
  refine ⟨⟨qs, h1, fun hl => ?_, fun q hq => (h3 q hq).imp hD⟩, h4, h5, h6, h7⟩
  obtain ⟨b, off, e, hb, hd, hc⟩ := h2 hl
  exact ⟨b, off, e, hb, hD b hb hd, hc⟩
theorem LD.at_ (h : LD w D A n c ls) {i : Nat} (hl : ls[i]? = some l) : ∃ b off a k, A = some ⟨b, off, none⟩ ∧ b < w.heap.size ∧ D b ∧ w.cell? ⟨b, off + i, none⟩ = some (.slice a l.length k) ∧ Dd w D l a k := by
  obtain ⟨⟨qs, rfl, h2, h3⟩, _⟩ := h
  rw [List.getElem?_map] at hl
  cases hq : qs[i]? with
  | none => rw [hq] at hl; cases hl
  | some q =>
    rw [hq] at hl
    injection hl with hl
    subst hl
    obtain ⟨b, off, rfl, hb, hd, hc⟩ := h2 (by have := (List.getElem?_eq_some_iff.1 hq).1; omega)
    exact ⟨b, off, q.a, q.c, rfl, hb, hd, hc i q hq, h3 q (List.mem_of_getElem? hq)⟩
/-- what 's[1:]' leaves -/
theorem LD.tail {b off : Nat} {x : List Byte} (h : LD w D (some ⟨b, off, none⟩) n c (x :: ls)) : LD w D (if c = 1 then some ⟨b, off, none⟩ else some ((⟨b, off, none⟩ : Addr).add 1)) (n - 1) (c - 1) ls := by
  obtain ⟨⟨qs, h1, h2, h3⟩, h4, h5, h6, h7⟩ := h
  cases qs with
  | nil => cases h1
  | cons q qs =>
    rw [List.map_cons] at h1
    injection h1 with e1 e2
    simp only [List.length_cons] at h4
    refine ⟨⟨qs, e2, fun hl => ?_, fun y hy => h3 y (List.mem_cons_of_mem _ hy)⟩, by omega, (fun e => by split at e <;> cases e), by omega, by omega⟩
    obtain ⟨b', off', e, hb, hd, hc⟩ := h2 (by simp)
    injection e with e
    injection e with e3 e4
    subst e3 e4
    have hlen : ls.length = qs.length := by rw [← e2, List.length_map]
    rw [if_neg (by omega)]
    refine ⟨b, off + 1, by simp [Addr.add], hb, hd, fun i y hy => ?_⟩
    have := hc (i + 1) y (by simpa using hy)
    rw [show off + 1 + i = off + (i + 1) by omega]
    exact this
/-- as an append reads it -/
theorem LD.rs (h : LD w D A n c ls) : ∃ qs : List Qb, qs.map (·.l) = ls ∧ Rs enc 1 w w.heap.size A qs ∧ ∀ q ∈ qs, Dd w D q.l q.a q.c := by
  obtain ⟨⟨qs, h1, h2, h3⟩, _⟩ := h
  refine ⟨qs, h1, fun hl => ?_, h3⟩
  obtain ⟨b, off, e, hb, _, hc⟩ := h2 hl
  refine ⟨b, off, e, hb, fun i q hq j u hu => ?_⟩
  have hj : j = 0 := by
    have := (List.getElem?_eq_some_iff.1 hu).1
    simp only [enc, List.length_cons, List.length_nil] at this
    omega
  subst hj
  have e2 : (enc q)[0]? = some (.slice q.a q.l.length q.c) := rfl
  rw [e2] at hu
  injection hu with hu
  subst hu
  rw [Nat.mul_one, Nat.add_zero]
  exact hc i q hq
/-- a row of the call's own -/
theorem LD.row {base : Nat} {t : TypeId} {qs : List Qb} (h : Row.Os enc 1 w base t (.slice A n c) qs) (hn : qs.length = n) (hD : ∀ b, base ≤ b → b < w.heap.size → D b) (h3 : ∀ q ∈ qs, Dd w D q.l q.a q.c) : LD w D A n c (qs.map (·.l)) := by
  subst hn
  obtain ⟨A', c', he, hr, hnil, hle, hmax⟩ := h.reads_len enc_ok rfl
  cases he
  refine ⟨⟨qs, rfl, fun hl => ?_, h3⟩, by simp, hnil, hle, hmax⟩
  obtain ⟨b, off, rfl, hlt, hc⟩ := hr hl
  have hb := (h.lt b rfl).1
  refine ⟨b, off, rfl, hlt, hD b hb hlt, fun i q hq => ?_⟩
  have := hc i q hq 0 _ rfl
  rwa [Nat.mul_one, Nat.add_zero] at this
end
end Go.Proofs.Ytjjjlgaidklokaa.Lst
