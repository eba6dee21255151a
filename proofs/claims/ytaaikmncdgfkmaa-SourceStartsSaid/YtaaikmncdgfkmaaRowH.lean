/-
  Slices of elements of k cells each, whatever they are (enc x: the cells of x), in a world: Rs (reads as a list), Os (a slice of the call's own that holds a list); append. No dump is imported.
-/
import Derived.Test.YtaaikmncdgfkmaaCel
import Derived.Laws.CopyRow
import Derived.Laws.CopyOwn
namespace Go.Proofs.Ytaaikmncdgfkmaa.Row
open Go.RowKit

/-- what is asked of the elements' cells -/
structure Enc {α : Type} (enc : α → List Value) (k : Nat) : Prop where
  len : ∀ x, (enc x).length = k
  one : ∀ x, ∀ u ∈ enc x, u.oneCell' = true
  pos : 0 < k

section
variable {α : Type} {enc : α → List Value} {k : Nat}
def flat (enc : α → List Value) (l : List α) : List Value := l.flatMap enc
theorem flat_append (a b : List α) : flat enc (a ++ b) = flat enc a ++ flat enc b := List.flatMap_append
theorem flat_cons (x : α) (l : List α) : flat enc (x :: l) = enc x ++ flat enc l := rfl
theorem flat_length (h : Enc enc k) : ∀ l : List α, (flat enc l).length = l.length * k
  | [] => by simp [flat]
  | x :: l => by rw [flat_cons, List.length_append, flat_length h l, h.len, List.length_cons, Nat.succ_mul]; omega
theorem flat_at (h : Enc enc k) : ∀ {l : List α} {i j : Nat} {x : α} {u : Value}, l[i]? = some x → (enc x)[j]? = some u → (flat enc l)[i * k + j]? = some u
  | [], i, j, x, u, hx, _ => by simp at hx
  | y :: l, 0, j, x, u, hx, hu => by
    simp at hx; subst hx
    have hj := (List.getElem?_eq_some_iff.1 hu).1
    rw [flat_cons, Nat.zero_mul, Nat.zero_add, List.getElem?_append_left hj, hu]
  | y :: l, i + 1, j, x, u, hx, hu => by
    rw [flat_cons, List.getElem?_append_right (by rw [h.len, Nat.succ_mul]; omega), h.len, show (i + 1) * k + j - k = i * k + j by rw [Nat.succ_mul]; omega]
    exact flat_at h (by simpa using hx) hu
theorem flat_inv (h : Enc enc k) : ∀ {l : List α} {m : Nat} {u : Value}, (flat enc l)[m]? = some u → ∃ i j x, m = i * k + j ∧ l[i]? = some x ∧ (enc x)[j]? = some u
  | [], m, u, hu => by simp [flat] at hu
  | y :: l, m, u, hu => by
    rw [flat_cons] at hu
    rcases Nat.lt_or_ge m k with hm | hm
    · rw [List.getElem?_append_left (by rw [h.len]; exact hm)] at hu
      exact ⟨0, m, y, by simp, by simp, hu⟩
    · rw [List.getElem?_append_right (by rw [h.len]; exact hm), h.len] at hu
      obtain ⟨i, j, x, e, hx, hj⟩ := flat_inv h hu
      exact ⟨i + 1, j, x, by rw [Nat.succ_mul]; omega, by simpa using hx, hj⟩
theorem flat_one (h : Enc enc k) (l : List α) : ∀ u ∈ flat enc l, u.oneCell' = true := by
  intro u hu
  obtain ⟨x, _, hx⟩ := List.mem_flatMap.1 hu
  exact h.one x u hx

/-- type t is a slice of e; e's zero value z has k cells; an element has 'bytes' bytes -/
def IsRows (P : Program) (t e : TypeId) (z : Value) (k bytes : Nat) : Prop :=
  P.underlying t = some (.slice e) ∧ z.cells.size = k ∧ ∃ i, P.info? e = some i ∧ i.zero = some z ∧ i.size = k ∧ i.bytes = bytes
theorem IsRows.of {P : Program} {t e : TypeId} {z : Value} {k bytes : Nat} (ht : P.underlying t = some (.slice e)) (hz : z.cells.size = k) (h : (P.info? e).map (fun i => (i.zero, i.size, i.bytes)) = some (some z, k, bytes)) : IsRows P t e z k bytes := by
  obtain ⟨i, h0, h1, h2, h3⟩ := info_parts h
  exact ⟨ht, hz, i, h0, h1, h2, h3⟩

/-- 'A' leads to the elements l, all below block B; of the empty list nothing is asked -/
def Rs (enc : α → List Value) (k : Nat) (w : World) (B : Nat) (A : Option Addr) (l : List α) : Prop :=
  0 < l.length → ∃ b off, A = some ⟨b, off, none⟩ ∧ b < B ∧ ∀ i x, l[i]? = some x → ∀ j u, (enc x)[j]? = some u → w.cell? ⟨b, off + i * k + j, none⟩ = some u
/-- v is a slice of the call's own (blocks from base on) that holds l -/
def Os (enc : α → List Value) (k : Nat) (w : World) (base : Nat) (e : TypeId) (v : Value) (l : List α) : Prop := w.ownsRow base e k v l.length (flat enc l)

theorem add_zero_cell (w : World) (g j : Nat) : w.cell? ((⟨g, 0, none⟩ : Addr).add j) = w.cell? ⟨g, j, none⟩ := by
  rcases Nat.eq_zero_or_pos j with rfl | hj
  · rfl
  · have hne : j ≠ 0 := by omega
    simp [Addr.add, hne]

variable {w w' : World} {B B' : Nat} {a : Option Addr} {l : List α} {base : Nat} {e : TypeId} {v : Value} {S : List Nat}
theorem Rs.nil_ : Rs enc k w B a [] := fun h => absurd h (by simp)
theorem Rs.keep (h : Rs enc k w B a l) (hk : ∀ p : Addr, p.block < B → w'.cell? p = w.cell? p) : Rs enc k w' B a l := fun hl => by
  obtain ⟨b, off, rfl, hb, hc⟩ := h hl
  exact ⟨b, off, rfl, hb, fun i x hx j u hu => (hk ⟨b, off + i * k + j, none⟩ hb).trans (hc i x hx j u hu)⟩
theorem Rs.below (h : Rs enc k w B a l) (hb : Below B w w') : Rs enc k w' B a l := h.keep fun _ hp => hb.cell hp
theorem Rs.more (h : Rs enc k w B a l) (hB : B ≤ B') : Rs enc k w B' a l := fun hl => by
  obtain ⟨b, off, rfl, hb, hc⟩ := h hl
  exact ⟨b, off, rfl, by omega, hc⟩
theorem Rs.only (h : Rs enc k w B a l) (q : Only S w w') (hB : B ≤ w.heap.size) (hS : ∀ x ∈ S, B ≤ x) : Rs enc k w' B a l := h.below (q.below hB hS)
theorem Rs.draws (h : Rs enc k w B a l) (n : Nat) : Rs enc k (w.drewN n) B a l := h
theorem Rs.drew (h : Rs enc k w B a l) : Rs enc k w.drew B a l := h
theorem Rs.at_ (h : Rs enc k w B a l) {i : Nat} (hi : i < l.length) : ∃ b off, a = some ⟨b, off, none⟩ ∧ b < B ∧ ∀ j u, (enc l[i])[j]? = some u → w.cell? ⟨b, off + i * k + j, none⟩ = some u := by
  obtain ⟨b, off, rfl, hb, hc⟩ := h (by omega)
  exact ⟨b, off, rfl, hb, hc i _ (List.getElem?_eq_getElem hi)⟩
theorem Rs.take (h : Rs enc k w B a l) (n : Nat) : Rs enc k w B a (l.take n) := fun hl => by
  obtain ⟨b, off, he, hb, hc⟩ := h (by simp at hl; omega)
  refine ⟨b, off, he, hb, fun i x hx => hc i x ?_⟩
  rw [List.getElem?_take] at hx
  split at hx
  · exact hx
  · cases hx
theorem Rs.drop {b off : Nat} (h : Rs enc k w B (some ⟨b, off, none⟩) l) (n : Nat) : Rs enc k w B (some ⟨b, off + n * k, none⟩) (l.drop n) := fun hl => by
  obtain ⟨_, _, he, hb, hc⟩ := h (by simp at hl; omega)
  cases he
  refine ⟨b, off + n * k, rfl, hb, fun i x hx j u hu => ?_⟩
  have := hc (n + i) x (by rw [List.getElem?_drop] at hx; exact hx) j u hu
  rw [show off + n * k + i * k + j = off + (n + i) * k + j by rw [Nat.add_mul]; omega]
  exact this
theorem Rs_new (h : Enc enc k) (w : World) (e : TypeId) (l : List α) (C : Array Value) (hC : C = (flat enc l).toArray) (B : Nat) (hB : w.heap.size < B) : Rs enc k (w.alloc (.cells C e)) B (some ⟨w.heap.size, 0, none⟩) l := fun _ => by
  refine ⟨w.heap.size, 0, rfl, hB, fun i x hx j u hu => ?_⟩
  rw [Nat.zero_add, cell_of_row _ _ _ _ e (0, 0) (heap_alloc_new w _), hC]
  simpa using flat_at h hx hu
theorem Rs_new1 (h : Enc enc k) (w : World) (e : TypeId) (x : α) (C : Array Value) (hC : C = (enc x).toArray) : Rs enc k (w.alloc (.cells C e)) (w.heap.size + 1) (some ⟨w.heap.size, 0, none⟩) [x] := Rs_new h w e [x] C (by rw [hC]; simp [flat]) _ (by omega)

theorem Os.nil_ (w : World) (base : Nat) (e : TypeId) : Os enc k w base e (.slice none 0 0) [] := ⟨by simp [flat], .inl ⟨rfl, rfl⟩⟩
theorem Os.empty (w : World) (base : Nat) (e : TypeId) (hb : base ≤ w.heap.size) : Os enc k (w.alloc (.cells #[] e)) base e (.slice (some ⟨w.heap.size, 0, none⟩) 0 0) [] :=
  ⟨by simp [flat], .inr ⟨w.heap.size, 0, #[], rfl, hb, heap_alloc_new w _, Nat.le_refl _, by simp, by simp, by simp [flat]⟩⟩
theorem Os.lt (h : Os enc k w base e v l) : ∀ i, v.ownBlock = some i → base ≤ i ∧ i < w.heap.size := World.ownsRow.lt h
theorem Os.base_le (h : Os enc k w base e v l) : ∀ i, v.ownBlock = some i → base ≤ i := fun i hi => (h.lt i hi).1
theorem Os.only (h : Os enc k w base e v l) (q : Only S w w') (hS : ∀ i, v.ownBlock = some i → i ∉ S) : Os enc k w' base e v l := own_only h q hS
theorem Os.below (h : Os enc k w base e v l) (hb : Below w.heap.size w w') : Os enc k w' base e v l := h.only (Only.of_below (S := []) hb) (by simp)
theorem Os.alloc (h : Os enc k w base e v l) (o : Obj) : Os enc k (w.alloc o) base e v l := World.ownsRow.alloc h o
theorem Os.draws (h : Os enc k w base e v l) (n : Nat) : Os enc k (w.drewN n) base e v l := h
theorem Os.drew (h : Os enc k w base e v l) : Os enc k w.drew base e v l := World.ownsRow.drew h
theorem Os.grown {o : Obj} {row : Option Nat} (h : Os enc k w base e v l) (q : (w.alloc o).grownBy w' row) (hne : ∀ i, v.ownBlock = some i → row ≠ some i) : Os enc k w' base e v l :=
  (h.alloc o).only (Only.of_grown q) (fun i hi hm => hne i hi (by simpa using hm))
theorem Os.more (h : Os enc k w base e v l) {b' : Nat} (hb : b' ≤ base) : Os enc k w b' e v l := by
  refine ⟨h.1, ?_⟩
  rcases h.2 with h2 | ⟨g, cap, cur, hv, hg, rest⟩
  · exact .inl h2
  · exact .inr ⟨g, cap, cur, hv, by omega, rest⟩
theorem Os.reads (hE : Enc enc k) (h : Os enc k w base e v l) : ∃ A c, v = .slice A l.length c ∧ Rs enc k w w.heap.size A l ∧ (A = none → c = 0) ∧ l.length ≤ c ∧ c ≤ maxLen := by
  have hcells := fun g cap (hv : v = .slice (some ⟨g, 0, none⟩) l.length cap) => World.ownsRow.cells h (g := g) (by rw [hv]; rfl)
  rcases h.2 with ⟨rfl, h0⟩ | ⟨g, cap, cur, rfl, _, hh, hn, hm, _⟩
  · have : l = [] := List.eq_nil_of_length_eq_zero h0
    subst this
    exact ⟨none, 0, rfl, Rs.nil_, fun _ => rfl, by simp, by simp⟩
  · refine ⟨some ⟨g, 0, none⟩, cap, rfl, fun _ => ⟨g, 0, rfl, lt_of_block hh, fun i x hx j u hu => ?_⟩, by simp, hn, hm⟩
    have := hcells g cap rfl (i * k + j) _ (flat_at hE hx hu)
    rw [add_zero_cell] at this
    rw [Nat.zero_add]; exact this
theorem Os.reads_len (hE : Enc enc k) {n : Nat} (h : Os enc k w base e v l) (hl : l.length = n) : ∃ A c, v = .slice A n c ∧ Rs enc k w w.heap.size A l ∧ (A = none → c = 0) ∧ n ≤ c ∧ c ≤ maxLen := by
  subst hl; exact h.reads hE
theorem Os.rs (hE : Enc enc k) {A : Option Addr} {n c : Nat} (h : Os enc k w base e (.slice A n c) l) : Rs enc k w w.heap.size A l := by
  obtain ⟨A', c', he, h2, _⟩ := h.reads hE
  cases he
  exact h2
theorem Os.addr {A : Option Addr} {n c : Nat} (h : Os enc k w base e (.slice A n c) l) : (A = none ∧ c = 0) ∨ ∃ g, A = some ⟨g, 0, none⟩ := by
  rcases h.2 with ⟨he, _⟩ | ⟨g, cap, cur, he, _⟩
  · cases he; exact .inl ⟨rfl, rfl⟩
  · cases he; exact .inr ⟨g, rfl⟩
theorem Os.apart {g : Nat} {t : TypeId} {cs : Array Value} (h : Os enc k w base e v l) (q : Cel w g t cs) (ht : e ≠ t) : v.ownBlock ≠ some g := own_apart h q ht
/-- a block that is known whole, as a slice of the call's own -/
theorem Os_of_cel (hE : Enc enc k) {g : Nat} (h : Cel w g e (flat enc l).toArray) (hb : base ≤ g) (hl : l.length ≤ maxLen) : Os enc k w base e (.slice (some ⟨g, 0, none⟩) l.length l.length) l :=
  ⟨flat_length hE l, .inr ⟨g, l.length, _, rfl, hb, h, Nat.le_refl _, hl, by simp [flat_length hE], List.take_of_length_le (by simp [flat_length hE])⟩⟩

/-! ### append -/
variable {P : Program} (w)
theorem run_row (hE : Enc enc k) {t e ty : TypeId} {z : Value} {bytes : Nat} (hT : IsRows P t e z k bytes) (hby : bytes ≤ 4096) {base : Nat} {v : Value} {m : List α} (hown : Os enc k w base e v m)
    {B : Nat} {A : Option Addr} {l : List α} {c : Nat} (hr : Rs enc k w B A l) (hn : A = none → c = 0) (h47 : m.length + l.length ≤ 34359738368) (hbase : base ≤ w.heap.size) :
    ∃ v' w', (Builtin.append_ #[t, t] ty #[v, .slice A l.length c]).run P w = .ok v' w' ∧ Os enc k w' base e v' (m ++ l) ∧ w.grownBy w' v.ownBlock ∧ (v'.ownBlock = v.ownBlock ∨ v'.ownBlock = some w.heap.size) := by
  obtain ⟨ht, hzc, i, hi, hz, h1, h2⟩ := hT
  cases A with
  | none =>
    have hl : l = [] := by
      rcases Nat.eq_zero_or_pos l.length with h0 | h0
      · exact List.eq_nil_of_length_eq_zero h0
      · obtain ⟨b, off, h, _⟩ := hr h0; cases h
    subst hl
    obtain rfl : c = 0 := hn rfl
    exact ⟨v, w, run_append_owned_none w base t ty e i k ht hi v m.length _ hown, by simpa using hown, World.grownBy.refl w _, .inl rfl⟩
  | some ad =>
    obtain ⟨v', w', hrun, ho, hg, _, h5⟩ := run_append_own_at (P := P) w base t ty e i z k bytes ht hi hz h1 h2 hzc hE.pos v m.length (flat enc m) hown ad l.length c (flat enc l)
      (flat_length hE l) (fun q u hu => by
        obtain ⟨i, j, x, rfl, hx, hj⟩ := flat_inv hE hu
        have hil := (List.getElem?_eq_some_iff.1 hx).1
        obtain ⟨b, off, he, _, hc⟩ := hr (by omega)
        injection he with he
        subst he
        have e2 : w.cell? ((⟨b, off, none⟩ : Addr).add (i * k + j)) = w.cell? ⟨b, off + (i * k + j), none⟩ := by
          rcases Nat.eq_zero_or_pos (i * k + j) with h0 | h0
          · rw [h0]; rfl
          · have hne : i * k + j ≠ 0 := by omega
            simp only [Addr.add, if_neg hne]
        rw [e2, ← Nat.add_assoc]
        exact hc i x hx j u hj) (flat_one hE l) (by unfold maxLen; omega) (Nat.le_trans (Nat.mul_le_mul h47 hby) (by decide)) hbase
    exact ⟨v', w', hrun, by unfold Os; rw [List.length_append, flat_append]; exact ho, hg, h5⟩
theorem wp_row (hE : Enc enc k) {t e : TypeId} {z : Value} {bytes : Nat} (hT : IsRows P t e z k bytes) (hby : bytes ≤ 4096) {o : Oper} {a : Act} {K : Act → World → Prop} {Q : Exit → Act → World → Prop} (s x : Operand)
    (ho : o.op = .call { callee := .builtin .append, args := #[s, x], argTypes := #[t, t] })
    {base : Nat} {v : Value} {m : List α} (hs : a.eval s = v) (hown : Os enc k w base e v m)
    {B n : Nat} {A : Option Addr} {l : List α} {c : Nat} (hl : l.length = n) (hx : a.eval x = .slice A n c) (hr : Rs enc k w B A l) (hn : A = none → c = 0) (h47 : m.length + l.length ≤ 34359738368) (hbase : base ≤ w.heap.size)
    (h : ∀ v' w', Os enc k w' base e v' (m ++ l) → w.grownBy w' v.ownBlock → (v'.ownBlock = v.ownBlock ∨ v'.ownBlock = some w.heap.size) → K (a.put o.dst v') w') : o.wp P a w K Q := by
  subst hl
  obtain ⟨v', w', hrun, h2, h3, h4⟩ := run_row (P := P) (ty := o.type) w hE hT hby hown hr hn h47 hbase
  unfold Oper.wp execOp
  simp only [ho, resolve, invoke, builtin, Sem.run_bind, Sem.run_pure, Result.andThen_ok, List.map_toArray, List.map_cons, List.map_nil, hs, hx, hrun]
  exact h v' w' h2 h3 h4
theorem wpList_row (hE : Enc enc k) {t e : TypeId} {z : Value} {bytes : Nat} (hT : IsRows P t e z k bytes) (hby : bytes ≤ 4096) {ops : Array Oper} {rest : List Oper} {o : Oper} {a : Act} {Q : Exit → Act → World → Prop} (hgd : o.guard = none) (s x : Operand)
    (ho : o.op = .call { callee := .builtin .append, args := #[s, x], argTypes := #[t, t] })
    {base : Nat} {v : Value} {m : List α} (hs : a.eval s = v) (hown : Os enc k w base e v m)
    {B n : Nat} {A : Option Addr} {l : List α} {c : Nat} (hl : l.length = n) (hx : a.eval x = .slice A n c) (hr : Rs enc k w B A l) (hn : A = none → c = 0) (h47 : m.length + l.length ≤ 34359738368) (hbase : base ≤ w.heap.size)
    (h : ∀ v' w', Os enc k w' base e v' (m ++ l) → w.grownBy w' v.ownBlock → (v'.ownBlock = v.ownBlock ∨ v'.ownBlock = some w.heap.size) → wpList P ops Q rest (a.put o.dst v') w') : wpList P ops Q (o :: rest) a w :=
  wpList_plain hgd fun _ hK => wp_row w hE hT hby s x ho hs hown hl hx hr hn h47 hbase fun v' w' h2 h3 h4 => hK _ _ (h v' w' h2 h3 h4)
theorem step_row (hE : Enc enc k) {t e : TypeId} {z : Value} {bytes : Nat} (hT : IsRows P t e z k bytes) (hby : bytes ≤ 4096) {ops : Array Oper} {o : Oper} {a : Act} {K : Act → World → Prop} {Q : Exit → Act → World → Prop} {E : Prop} (hgd : o.guard = none) (s x : Operand)
    (ho : o.op = .call { callee := .builtin .append, args := #[s, x], argTypes := #[t, t] })
    {base : Nat} {v : Value} {m : List α} (hs : a.eval s = v) (hown : Os enc k w base e v m)
    {B n : Nat} {A : Option Addr} {l : List α} {c : Nat} (hl : l.length = n) (hx : a.eval x = .slice A n c) (hr : Rs enc k w B A l) (hn : A = none → c = 0) (h47 : m.length + l.length ≤ 34359738368) (hbase : base ≤ w.heap.size)
    (h : ∀ v' w', Os enc k w' base e v' (m ++ l) → w.grownBy w' v.ownBlock → (v'.ownBlock = v.ownBlock ∨ v'.ownBlock = some w.heap.size) → K (a.put o.dst v') w') :
    if Region.wanted o (yielded ops a.tmps) = true then Oper.wp P o a w K Q else E := by
  have hw : Region.wanted o (yielded ops a.tmps) = true := by simp [Region.wanted, hgd]
  rw [if_pos hw]
  exact wp_row w hE hT hby s x ho hs hown hl hx hr hn h47 hbase h

/-! ### the row behind a slice of the call's own -/
variable {w}
/-- block g holds l and as many cells more as capacity c says -/
def Rw (enc : α → List Value) (k : Nat) (w : World) (e : TypeId) (g c : Nat) (l : List α) : Prop := ∃ sp : List Value, Cel w g e (flat enc l ++ sp).toArray ∧ l.length * k + sp.length = c * k ∧ c ≤ maxLen
theorem Os.row (h : Os enc k w base e v l) (hl : 0 < l.length) : ∃ g c, v = .slice (some ⟨g, 0, none⟩) l.length c ∧ base ≤ g ∧ l.length ≤ c ∧ Rw enc k w e g c l := by
  rcases h.2 with ⟨rfl, h0⟩ | ⟨g, cap, cur, rfl, hb, hh, hn, hm, hs, ht⟩
  · omega
  · refine ⟨g, cap, rfl, hb, hn, cur.toList.drop (l.length * k), ?_, ?_, hm⟩
    · have : flat enc l ++ cur.toList.drop (l.length * k) = cur.toList := by rw [← ht, List.take_append_drop]
      unfold Cel
      rw [this]; exact hh
    · have := Nat.mul_le_mul_right k hn
      rw [List.length_drop, show cur.toList.length = cap * k by simpa using hs]; omega
theorem Rw.os (hE : Enc enc k) {g c : Nat} (h : Rw enc k w e g c l) (hb : base ≤ g) (hc : l.length ≤ c) : Os enc k w base e (.slice (some ⟨g, 0, none⟩) l.length c) l := by
  obtain ⟨sp, hh, hs, hm⟩ := h
  refine ⟨flat_length hE l, .inr ⟨g, c, _, rfl, hb, hh, hc, hm, ?_, ?_⟩⟩
  · simp [flat_length hE]; omega
  · rw [List.toList_toArray, ← flat_length hE l, List.take_left]
/-- one cell of an element, written in place -/
theorem Os.set_ (hE : Enc enc k) {gr i j : Nat} {x x' : α} {u : Value} (h : Os enc k w base e v l) (hv : v.ownBlock = some gr) (hx : l[i]? = some x) (hx' : enc x' = (enc x).set j u) (hj : j < k) : Os enc k (w.setCell ⟨gr, i * k + j, none⟩ u) base e v (l.set i x') := by
  have hil := (List.getElem?_eq_some_iff.1 hx).1
  have hfl : flat enc (l.set i x') = (flat enc l).set (i * k + j) u := by
    apply List.ext_getElem?
    intro m
    by_cases hm : m < l.length * k
    · have hm2 : m < (flat enc l).length := by rw [flat_length hE]; exact hm
      obtain ⟨i2, j2, y, rfl, hy, hyj⟩ := flat_inv hE (List.getElem?_eq_getElem hm2)
      have hj2 : j2 < k := by have := (List.getElem?_eq_some_iff.1 hyj).1; rwa [hE.len] at this
      by_cases e1 : i2 = i
      · subst e1
        rw [hx] at hy
        injection hy with hy
        subst hy
        have hj2' : j2 < (enc x').length := by rw [hE.len]; exact hj2
        rw [flat_at hE (x := x') (by simp [hil]) (List.getElem?_eq_getElem hj2'), List.getElem?_set]
        by_cases e2 : j2 = j
        · subst e2
          rw [if_pos rfl, if_pos hm2]
          congr 1
          rw [List.getElem_of_eq hx', List.getElem_set_self]
        · rw [if_neg (by omega), List.getElem?_eq_getElem hm2, ← hyj, List.getElem?_eq_getElem (by rw [hE.len]; exact hj2)]
          congr 1
          rw [List.getElem_of_eq hx', List.getElem_set_ne (by omega)]
      · have hne : i2 * k + j2 ≠ i * k + j := fun e => e1 (by
          have h1 : (i2 * k + j2) / k = i2 := by rw [Nat.mul_comm, Nat.mul_add_div hE.pos, Nat.div_eq_of_lt hj2, Nat.add_zero]
          have h2 : (i * k + j) / k = i := by rw [Nat.mul_comm, Nat.mul_add_div hE.pos, Nat.div_eq_of_lt hj, Nat.add_zero]
          rw [← h1, e, h2])
        rw [List.getElem?_set_ne (by omega), List.getElem?_eq_getElem hm2]
        exact flat_at hE (by rw [List.getElem?_set_ne (by omega)]; exact hy) hyj
    · rw [List.getElem?_eq_none (by rw [flat_length hE, List.length_set]; omega), List.getElem?_eq_none (by rw [List.length_set, flat_length hE]; omega)]
  obtain ⟨h1, h2⟩ := h
  refine ⟨by rw [flat_length hE], ?_⟩
  rcases h2 with ⟨rfl, _⟩ | ⟨g, cap, cur, rfl, hb, hg, hn, hm, hs, ht⟩
  · cases hv
  · injection hv with hv
    have hv' : g = gr := hv
    subst hv'
    refine .inr ⟨g, cap, cur.setIfInBounds (i * k + j) u, by simp, hb, Cel.put (t := e) hg (i * k + j) u, by simpa using hn, hm, by simpa using hs, ?_⟩
    rw [Array.toList_setIfInBounds, List.take_set, List.length_set, ht, hfl]
end
end Go.Proofs.Ytaaikmncdgfkmaa.Row
