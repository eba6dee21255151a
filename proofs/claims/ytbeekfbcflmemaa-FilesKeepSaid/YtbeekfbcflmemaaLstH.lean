/-
  Slices of byte strings in a world: LS (an address leads to the strings), LO (a slice of the call's own that holds strings of its own). No dump is imported.
-/
import Derived.Test.YtbeekfbcflmemaaRowH
namespace Go.Proofs.Ytbeekfbcflmemaa.Lst
open Go.RowKit Go.Proofs.Ytbeekfbcflmemaa.Row

/-- a string as it lies in a slice of slices: the address and the capacity beside it -/
structure Qb where
  l : List Byte
  a : Option Addr
  c : Nat
def Qb.v (q : Qb) : Value := .slice q.a q.l.length q.c
def enc (q : Qb) : List Value := [.slice q.a q.l.length q.c]
theorem enc_ok : Enc enc 1 := ⟨fun _ => rfl, fun x u hu => by
  simp only [enc, List.mem_cons, List.not_mem_nil, or_false] at hu
  subst hu; rfl, by decide⟩
/-- a string, below block B -/
structure Dt (w : World) (B : Nat) (d : List Byte) (a : Option Addr) (c : Nat) : Prop where
  b : Bs w B a d
  n : a = none → c = 0
  l : d.length ≤ c
  m : c ≤ maxLen
section
variable {w w' : World} {B B' : Nat} {d : List Byte} {a A : Option Addr} {c : Nat} {S : List Nat} {ls : List (List Byte)}
theorem Dt.below (h : Dt w B d a c) (k : Below B w w') : Dt w' B d a c := ⟨h.b.below k, h.n, h.l, h.m⟩
theorem Dt.more (h : Dt w B d a c) (k : B ≤ B') : Dt w B' d a c := ⟨h.b.more k, h.n, h.l, h.m⟩
theorem Dt.only (h : Dt w B d a c) (k : Only S w w') (hB : B ≤ w.heap.size) (hS : ∀ x ∈ S, B ≤ x) : Dt w' B d a c := h.below (k.below hB hS)
theorem Dt.draws (h : Dt w B d a c) (n : Nat) : Dt (w.drewN n) B d a c := ⟨h.b, h.n, h.l, h.m⟩
theorem Dt.drew (h : Dt w B d a c) : Dt w.drew B d a c := ⟨h.b, h.n, h.l, h.m⟩
theorem Dt.later (h : Dt w w.heap.size d a c) (k : Below w.heap.size w w') : Dt w' w'.heap.size d a c := (h.below k).more k.size
theorem Dt_own {base : Nat} {e : TypeId} {v : Value} (h : Ow w base e v d) : ∃ a c, v = .slice a d.length c ∧ Dt w w.heap.size d a c := by
  obtain ⟨a, c, rfl, hb, hn, hl, hm⟩ := h.reads
  exact ⟨a, c, rfl, hb, hn, hl, hm⟩

/-- 'A' leads to the strings ls; they lie below block B -/
def LS (w : World) (B : Nat) (A : Option Addr) (ls : List (List Byte)) : Prop := ∃ qs : List Qb, qs.map (·.l) = ls ∧ Rs enc 1 w B A qs ∧ ∀ q ∈ qs, Dt w B q.l q.a q.c
theorem LS.nil_ : LS w B A [] := ⟨[], rfl, Rs.nil_, fun q hq => by cases hq⟩
theorem LS.below (h : LS w B A ls) (k : Below B w w') : LS w' B A ls := by
  obtain ⟨qs, h1, h2, h3⟩ := h
  exact ⟨qs, h1, h2.below k, fun q hq => (h3 q hq).below k⟩
theorem LS.more (h : LS w B A ls) (k : B ≤ B') : LS w B' A ls := by
  obtain ⟨qs, h1, h2, h3⟩ := h
  exact ⟨qs, h1, h2.more k, fun q hq => (h3 q hq).more k⟩
theorem LS.only (h : LS w B A ls) (k : Only S w w') (hB : B ≤ w.heap.size) (hS : ∀ x ∈ S, B ≤ x) : LS w' B A ls := h.below (k.below hB hS)
theorem LS.draws (h : LS w B A ls) (n : Nat) : LS (w.drewN n) B A ls := h.below ⟨rfl, rfl, rfl, Nat.le_refl _, fun _ _ => rfl⟩
theorem LS.drew (h : LS w B A ls) : LS w.drew B A ls := h.below ⟨rfl, rfl, rfl, Nat.le_refl _, fun _ _ => rfl⟩
theorem LS.at_ (h : LS w B A ls) {i : Nat} {l : List Byte} (hl : ls[i]? = some l) : ∃ b off a c, A = some ⟨b, off, none⟩ ∧ b < B ∧ w.cell? ⟨b, off + i, none⟩ = some (.slice a l.length c) ∧ Dt w B l a c := by
  obtain ⟨qs, rfl, h2, h3⟩ := h
  rw [List.getElem?_map] at hl
  cases hq : qs[i]? with
  | none => rw [hq] at hl; cases hl
  | some q =>
    rw [hq] at hl
    injection hl with hl
    subst hl
    have hil := (List.getElem?_eq_some_iff.1 hq).1
    obtain ⟨b, off, rfl, hb, hc⟩ := h2 (by omega)
    have := hc i q hq 0 _ rfl
    rw [Nat.mul_one, Nat.add_zero] at this
    exact ⟨b, off, q.a, q.c, rfl, hb, this, h3 q (List.mem_of_getElem? hq)⟩

/-- v is a slice of the call's own, of element type t, that holds the strings ls, each a slice of the call's own, of element type e; their blocks are among E -/
structure LO (w : World) (base : Nat) (t e : TypeId) (v : Value) (ls : List (List Byte)) (E : List Nat) : Prop where
  ex : ∃ qs : List Qb, qs.map (·.l) = ls ∧ Row.Os enc 1 w base t v qs ∧ ∀ q ∈ qs, Ow w base e q.v q.l ∧ ∀ k, q.v.ownBlock = some k → k ∈ E
  el : ∀ k ∈ E, base ≤ k ∧ ∃ cs, Cel w k e cs
variable {base n : Nat} {t e : TypeId} {v : Value} {E : List Nat}
theorem LO.nil_ (w : World) (base : Nat) (t e : TypeId) : LO w base t e (.slice none 0 0) [] [] := ⟨⟨[], rfl, Row.Os.nil_ _ _ _, fun q hq => by cases hq⟩, fun k hk => by cases hk⟩
theorem LO.only (h : LO w base t e v ls E) (k : Only S w w') (hv : ∀ i, v.ownBlock = some i → i ∉ S) (hE : ∀ i ∈ E, i ∉ S) : LO w' base t e v ls E := by
  obtain ⟨⟨qs, h1, h2, h3⟩, h4⟩ := h
  exact ⟨⟨qs, h1, h2.only k hv, fun q hq => ⟨(h3 q hq).1.only k (fun i hi => hE i ((h3 q hq).2 i hi)), (h3 q hq).2⟩⟩, fun i hi => ⟨(h4 i hi).1, by
    obtain ⟨cs, hc⟩ := (h4 i hi).2
    exact ⟨cs, hc.only k (hE i hi)⟩⟩⟩
theorem LO.below (h : LO w base t e v ls E) (k : Below w.heap.size w w') : LO w' base t e v ls E := h.only (S := []) (Only.of_below k) (by simp) (by simp)
theorem LO.alloc (h : LO w base t e v ls E) (o : Obj) : LO (w.alloc o) base t e v ls E := h.below ((Below.refl _ w).alloc (Nat.le_refl _) o)
theorem LO.draws (h : LO w base t e v ls E) (n : Nat) : LO (w.drewN n) base t e v ls E := h.below ⟨rfl, rfl, rfl, Nat.le_refl _, fun _ _ => rfl⟩
theorem LO.drew (h : LO w base t e v ls E) : LO w.drew base t e v ls E := h.below ⟨rfl, rfl, rfl, Nat.le_refl _, fun _ _ => rfl⟩
theorem LO.more (h : LO w base t e v ls E) {b' : Nat} (hb : b' ≤ base) : LO w b' t e v ls E := by
  obtain ⟨⟨qs, h1, h2, h3⟩, h4⟩ := h
  exact ⟨⟨qs, h1, h2.more hb, fun q hq => ⟨(h3 q hq).1.more hb, (h3 q hq).2⟩⟩, fun i hi => ⟨Nat.le_trans hb (h4 i hi).1, (h4 i hi).2⟩⟩
theorem LO.lt (h : LO w base t e v ls E) : ∀ i ∈ E, base ≤ i ∧ i < w.heap.size := fun i hi => ⟨(h.el i hi).1, by
  obtain ⟨cs, hc⟩ := (h.el i hi).2
  exact hc.lt⟩
theorem LO.row_lt (h : LO w base t e v ls E) : ∀ i, v.ownBlock = some i → base ≤ i ∧ i < w.heap.size := by
  obtain ⟨⟨qs, h1, h2, h3⟩, h4⟩ := h
  exact h2.lt
/-- a block of another type is no row of it -/
theorem LO.row_apart (h : LO w base t e v ls E) {g : Nat} {t' : TypeId} {cs : Array Value} (k : Cel w g t' cs) (ht : t ≠ t') : v.ownBlock ≠ some g := by
  obtain ⟨⟨qs, h1, h2, h3⟩, h4⟩ := h
  exact h2.apart k ht
theorem LO.el_apart (h : LO w base t e v ls E) {g : Nat} {t' : TypeId} {cs : Array Value} (k : Cel w g t' cs) (ht : e ≠ t') : g ∉ E := fun hg => by
  obtain ⟨cs', hc⟩ := (h.el g hg).2
  exact hc.apart k ht rfl
theorem LO.len (h : LO w base t e v ls E) (hn : ls.length = n) : ∃ A c, v = .slice A n c ∧ LS w w.heap.size A ls ∧ (A = none → c = 0) ∧ n ≤ c ∧ c ≤ maxLen := by
  obtain ⟨⟨qs, rfl, h2, h3⟩, h4⟩ := h
  obtain ⟨A, c, hv, hr, hn', hl, hm⟩ := h2.reads_len enc_ok (n := n) (by simpa using hn)
  exact ⟨A, c, hv, ⟨qs, rfl, hr, fun q hq => by
    obtain ⟨a, c, he, hd⟩ := Dt_own (h3 q hq).1
    unfold Qb.v at he
    cases he
    exact hd⟩, hn', hl, hm⟩
/-- what an append reads -/
theorem LO.parts (h : LO w base t e v ls E) (hn : ls.length = n) : ∃ (qs : List Qb) (A : Option Addr) (c : Nat), v = .slice A n c ∧ qs.length = n ∧ qs.map (·.l) = ls ∧ Row.Os enc 1 w base t (.slice A n c) qs ∧ Rs enc 1 w w.heap.size A qs ∧ (A = none → c = 0) ∧
    ∀ q ∈ qs, Ow w base e q.v q.l ∧ ∀ k, q.v.ownBlock = some k → k ∈ E := by
  obtain ⟨⟨qs, rfl, h2, h3⟩, h4⟩ := h
  have hn2 : qs.length = n := by simpa using hn
  obtain ⟨A, c, rfl, hr, hn', hl, hm⟩ := h2.reads_len enc_ok hn2
  exact ⟨qs, A, c, rfl, hn2, rfl, h2, hr, hn', h3⟩
/-- what an append leaves: onto v the strings of qs2 -/
theorem LO.app {ls2 : List (List Byte)} {E2 : List Nat} {v2 : Value} {qs2 : List Qb} {qs : List Qb} {row : Option Nat} (h : LO w base t e v ls E) (ht : t ≠ e) (he : qs.map (·.l) = ls) (h3 : ∀ q ∈ qs, Ow w base e q.v q.l ∧ ∀ k, q.v.ownBlock = some k → k ∈ E)
    (he2 : qs2.map (·.l) = ls2) (hq2 : ∀ q ∈ qs2, Ow w base e q.v q.l ∧ ∀ k, q.v.ownBlock = some k → k ∈ E2) (hE2 : ∀ k ∈ E2, base ≤ k ∧ ∃ cs, Cel w k e cs)
    (hrow : v.ownBlock = row) (hg : w.grownBy w' row) (ho : Row.Os enc 1 w' base t v2 (qs ++ qs2)) : LO w' base t e v2 (ls ++ ls2) (E ++ E2) := by
  have k := Only.of_grown hg
  have hne : ∀ i, (∃ cs, Cel w i e cs) → i ∉ row.toList := by
    rintro i ⟨cs, hc⟩ hm
    exact h.row_apart hc ht (by rw [hrow]; simpa using hm)
  have hE' : ∀ i ∈ E ++ E2, base ≤ i ∧ ∃ cs, Cel w i e cs := fun i hi => (List.mem_append.1 hi).elim (h.el i) (hE2 i)
  refine ⟨⟨qs ++ qs2, by rw [List.map_append, he, he2], ho, fun q hq => ?_⟩, fun i hi => ⟨(hE' i hi).1, ?_⟩⟩
  · have hq' : Ow w base e q.v q.l ∧ ∀ k, q.v.ownBlock = some k → k ∈ E ++ E2 := (List.mem_append.1 hq).elim
      (fun hq => ⟨(h3 q hq).1, fun k hk => List.mem_append_left _ ((h3 q hq).2 k hk)⟩) (fun hq => ⟨(hq2 q hq).1, fun k hk => List.mem_append_right _ ((hq2 q hq).2 k hk)⟩)
    exact ⟨hq'.1.only k (fun i hi => hne i (hE' i (hq'.2 i hi)).2), hq'.2⟩
  · obtain ⟨cs, hc⟩ := (hE' i hi).2
    exact ⟨cs, hc.only k (hne i ⟨cs, hc⟩)⟩
theorem own_cel {X : World} {base size n : Nat} {t : TypeId} {v : Value} {xs : List Value} (h : X.ownsRow base t size v n xs) {i : Nat} (hi : v.ownBlock = some i) : ∃ cs, Cel X i t cs := by
  rcases h.2 with ⟨rfl, _⟩ | ⟨g, cap, cur, rfl, _, hg, _⟩
  · cases hi
  · injection hi with hi
    have : g = i := hi
    subst this
    exact ⟨_, hg⟩
/-- one string more, in a block of its own -/
theorem LO.push1 {w4 w6 : World} {b' c n : Nat} {A : Option Addr} {L : List Byte} {v2 : Value} {ob : Obj} {qs : List Qb} {row : Option Nat} (h : LO w base t e v ls E) (ht : t ≠ e) (o4 : Ow w4 b' e (.slice A n c) L) (hb' : base ≤ b') (hn : L.length = n) (b4 : Below w.heap.size w w4)
    (he : qs.map (·.l) = ls) (h3 : ∀ q ∈ qs, Ow (w4.alloc ob) base e q.v q.l ∧ ∀ k, q.v.ownBlock = some k → k ∈ E) (hR : v.ownBlock = row) (hg6 : (w4.alloc ob).grownBy w6 row) (ho6 : Row.Os enc 1 w6 base t v2 (qs ++ [⟨L, A, c⟩])) :
    LO w6 base t e v2 (ls ++ [L]) (E ++ (Value.slice A n c).ownBlock.toList) := by
  subst hn
  have e4 : ∀ k ∈ (Value.slice A L.length c).ownBlock.toList, base ≤ k ∧ ∃ cs, Cel (w4.alloc ob) k e cs := fun k hk => by
    have hk : (Value.slice A L.length c).ownBlock = some k := by simpa using hk
    have o5 := o4.alloc ob
    exact ⟨by have := (o5.lt k hk).1; omega, own_cel o5 hk⟩
  refine (h.below (b4.alloc b4.size ob)).app ht he h3 (ls2 := [L]) (qs2 := [⟨L, A, c⟩]) rfl (fun q hq => ?_) e4 hR hg6 ho6
  obtain rfl := List.mem_singleton.1 hq
  exact ⟨(o4.alloc ob).more hb', fun k hk => by simpa [Qb.v] using hk⟩
theorem toList_own {w : World} {base : Nat} {e : TypeId} {v : Value} {l : List Byte} (h : Ow w base e v l) : ∀ k ∈ v.ownBlock.toList, base ≤ k ∧ ∃ cs, Cel w k e cs := fun k hk => by
  have hk : v.ownBlock = some k := by simpa using hk
  exact ⟨(h.lt k hk).1, own_cel h hk⟩
end
end Go.Proofs.Ytbeekfbcflmemaa.Lst
