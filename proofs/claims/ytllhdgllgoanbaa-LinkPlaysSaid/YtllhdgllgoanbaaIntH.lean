/-
  Slices of ints in a world: Ns (reads as a list of ints), On (a slice of the call's own that holds a list of ints); append. No dump is imported.
-/
import Derived.Test.YtllhdgllgoanbaaCel
namespace Go.Proofs.Ytllhdgllgoanbaa.Ints
open Go.RowKit

abbrev I (n : Int) : Value := .int .i64 n
/-- type t is a slice of ints, e the int's type -/
def IsInts (P : Program) (t e : TypeId) : Prop :=
  P.underlying t = some (.slice e) ∧ ∃ i, P.info? e = some i ∧ i.zero = some (I 0) ∧ i.size = 1 ∧ i.bytes = 8
/-- 'A' leads to the ints l, all below block B; of the empty list nothing is asked -/
def Ns (w : World) (B : Nat) (A : Option Addr) (l : List Int) : Prop :=
  0 < l.length → ∃ b off, A = some ⟨b, off, none⟩ ∧ b < B ∧ ∀ i x, l[i]? = some x → w.cell? ⟨b, off + i, none⟩ = some (I x)
/-- v is a slice of the call's own (blocks from base on) that holds the ints l -/
def On (w : World) (base : Nat) (e : TypeId) (v : Value) (l : List Int) : Prop := w.ownsRow base e 1 v l.length (l.map I)

theorem I_one (l : List Int) : ∀ u ∈ l.map I, u.oneCell' = true := by
  intro u hu
  obtain ⟨x, _, rfl⟩ := List.mem_map.1 hu
  rfl
theorem add_zero_cell (w : World) (g j : Nat) : w.cell? ((⟨g, 0, none⟩ : Addr).add j) = w.cell? ⟨g, j, none⟩ := by
  rcases Nat.eq_zero_or_pos j with rfl | hj
  · rfl
  · have hne : j ≠ 0 := by omega
    simp [Addr.add, hne]

section
variable {w w' : World} {B B' : Nat} {a : Option Addr} {l : List Int} {base : Nat} {e : TypeId} {v : Value} {S : List Nat}
theorem Ns.nil_ : Ns w B a [] := fun h => absurd h (by simp)
theorem Ns.keep (h : Ns w B a l) (hk : ∀ p : Addr, p.block < B → w'.cell? p = w.cell? p) : Ns w' B a l := fun hl => by
  obtain ⟨b, off, rfl, hb, hc⟩ := h hl
  exact ⟨b, off, rfl, hb, fun i x hx => (hk ⟨b, off + i, none⟩ hb).trans (hc i x hx)⟩
theorem Ns.below (h : Ns w B a l) (hb : Below B w w') : Ns w' B a l := h.keep fun _ hp => hb.cell hp
theorem Ns.more (h : Ns w B a l) (hB : B ≤ B') : Ns w B' a l := fun hl => by
  obtain ⟨b, off, rfl, hb, hc⟩ := h hl
  exact ⟨b, off, rfl, by omega, hc⟩
theorem Ns.only (h : Ns w B a l) (k : Only S w w') (hB : B ≤ w.heap.size) (hS : ∀ x ∈ S, B ≤ x) : Ns w' B a l := h.below (k.below hB hS)
theorem Ns.at_ (h : Ns w B a l) {k : Nat} (hk : k < l.length) : ∃ b off, a = some ⟨b, off, none⟩ ∧ b < B ∧ w.cell? ⟨b, off + k, none⟩ = some (I l[k]) := by
  obtain ⟨b, off, rfl, hb, hc⟩ := h (by omega)
  exact ⟨b, off, rfl, hb, hc k _ (List.getElem?_eq_getElem hk)⟩
theorem Ns.draws (h : Ns w B a l) (n : Nat) : Ns (w.drewN n) B a l := h
theorem Ns.drew (h : Ns w B a l) : Ns w.drew B a l := h

theorem On.nil_ (w : World) (base : Nat) (e : TypeId) : On w base e (.slice none 0 0) [] := ⟨rfl, .inl ⟨rfl, rfl⟩⟩
theorem On.lt (h : On w base e v l) : ∀ i, v.ownBlock = some i → base ≤ i ∧ i < w.heap.size := World.ownsRow.lt h
theorem On.base_le (h : On w base e v l) : ∀ k, v.ownBlock = some k → base ≤ k := fun k hk => (h.lt k hk).1
theorem On.only (h : On w base e v l) (k : Only S w w') (hS : ∀ i, v.ownBlock = some i → i ∉ S) : On w' base e v l := own_only h k hS
theorem On.below (h : On w base e v l) (hb : Below w.heap.size w w') : On w' base e v l := h.only (Only.of_below (S := []) hb) (by simp)
theorem On.alloc (h : On w base e v l) (o : Obj) : On (w.alloc o) base e v l := World.ownsRow.alloc h o
theorem On.draws (h : On w base e v l) (n : Nat) : On (w.drewN n) base e v l := h
theorem On.drew (h : On w base e v l) : On w.drew base e v l := World.ownsRow.drew h
theorem On.more (h : On w base e v l) {b' : Nat} (hb : b' ≤ base) : On w b' e v l := by
  refine ⟨h.1, ?_⟩
  rcases h.2 with h2 | ⟨g, cap, cur, hv, hg, rest⟩
  · exact .inl h2
  · exact .inr ⟨g, cap, cur, hv, by omega, rest⟩
theorem On.reads (h : On w base e v l) : ∃ A c, v = .slice A l.length c ∧ Ns w w.heap.size A l ∧ (A = none → c = 0) ∧ l.length ≤ c ∧ c ≤ maxLen := by
  have hcells := fun g cap (hv : v = .slice (some ⟨g, 0, none⟩) l.length cap) => World.ownsRow.cells h (g := g) (by rw [hv]; rfl)
  rcases h.2 with ⟨rfl, h0⟩ | ⟨g, cap, cur, rfl, _, hh, hn, hm, _⟩
  · have : l = [] := List.eq_nil_of_length_eq_zero h0
    subst this
    exact ⟨none, 0, rfl, Ns.nil_, fun _ => rfl, by simp, by simp⟩
  · refine ⟨some ⟨g, 0, none⟩, cap, rfl, fun _ => ⟨g, 0, rfl, lt_of_block hh, fun i x hx => ?_⟩, by simp, hn, hm⟩
    have := hcells g cap rfl i (I x) (by simp [hx])
    rw [add_zero_cell] at this
    simpa using this
theorem On.reads_len {n : Nat} (h : On w base e v l) (hl : l.length = n) : ∃ A c, v = .slice A n c ∧ Ns w w.heap.size A l ∧ (A = none → c = 0) ∧ n ≤ c ∧ c ≤ maxLen := by
  subst hl; exact h.reads
theorem Ns_new (w : World) (e : TypeId) (l : List Int) (C : Array Value) (hC : C = (l.map I).toArray) (B : Nat) (hB : w.heap.size < B) : Ns (w.alloc (.cells C e)) B (some ⟨w.heap.size, 0, none⟩) l := fun _ => by
  refine ⟨w.heap.size, 0, rfl, hB, fun i z hz => ?_⟩
  rw [Nat.zero_add, cell_of_row _ _ i _ e (0, 0) (heap_alloc_new w _), hC]
  simp [hz]
theorem Ns_new1 (w : World) (e : TypeId) (x : Int) : Ns (w.alloc (.cells #[I x] e)) (w.heap.size + 1) (some ⟨w.heap.size, 0, none⟩) [x] := Ns_new w e [x] _ rfl _ (by omega)
/-- a block that is known whole, as a slice of the call's own -/
theorem On_of_cel {g : Nat} (h : Cel w g e (l.map I).toArray) (hb : base ≤ g) (hl : l.length ≤ maxLen) : On w base e (.slice (some ⟨g, 0, none⟩) l.length l.length) l :=
  ⟨by simp, .inr ⟨g, l.length, _, rfl, hb, h, Nat.le_refl _, hl, by simp, List.take_of_length_le (by simp)⟩⟩
end

section
variable {P : Program} (w : World)
theorem run_iapp {t e ty : TypeId} (hT : IsInts P t e) {base : Nat} {v : Value} {m : List Int} (hown : On w base e v m)
    {B : Nat} {A : Option Addr} {l : List Int} {c : Nat} (hr : Ns w B A l) (hn : A = none → c = 0) (h47 : m.length + l.length ≤ 8796093022208) (hbase : base ≤ w.heap.size) :
    ∃ v' w', (Builtin.append_ #[t, t] ty #[v, .slice A l.length c]).run P w = .ok v' w' ∧ On w' base e v' (m ++ l) ∧ w.grownBy w' v.ownBlock ∧ (v'.ownBlock = v.ownBlock ∨ v'.ownBlock = some w.heap.size) := by
  obtain ⟨ht, i, hi, hz, h1, h2⟩ := hT
  cases A with
  | none =>
    have hl : l = [] := by
      rcases Nat.eq_zero_or_pos l.length with h0 | h0
      · exact List.eq_nil_of_length_eq_zero h0
      · obtain ⟨b, off, h, _⟩ := hr h0; cases h
    subst hl
    obtain rfl : c = 0 := hn rfl
    exact ⟨v, w, run_append_owned_none w base t ty e i 1 ht hi v m.length _ hown, by simpa using hown, World.grownBy.refl w _, .inl rfl⟩
  | some ad =>
    obtain ⟨v', w', hrun, ho, hg, _, h5⟩ := run_append_own_at (P := P) w base t ty e i (I 0) 1 8 ht hi hz h1 h2 rfl (by decide) v m.length (m.map I) hown ad l.length c (l.map I)
      (by simp) (fun j u hu => by
        rw [List.getElem?_map] at hu
        cases hx : l[j]? with
        | none => rw [hx] at hu; cases hu
        | some x =>
          rw [hx] at hu
          injection hu with hu
          subst hu
          have hj := (List.getElem?_eq_some_iff.1 hx).1
          obtain ⟨b, off, he, _, hc⟩ := hr (by omega)
          injection he with he
          subst he
          by_cases h0 : j = 0
          · subst h0; simpa [Addr.add] using hc 0 x hx
          · simpa [Addr.add, h0] using hc j x hx) (I_one l) (by unfold maxLen; omega) (by omega) hbase
    exact ⟨v', w', hrun, by unfold On; rw [List.length_append, List.map_append]; exact ho, hg, h5⟩
theorem wp_iapp {t e : TypeId} (hT : IsInts P t e) {o : Oper} {a : Act} {K : Act → World → Prop} {Q : Exit → Act → World → Prop} (s x : Operand)
    (ho : o.op = .call { callee := .builtin .append, args := #[s, x], argTypes := #[t, t] })
    {base : Nat} {v : Value} {m : List Int} (hs : a.eval s = v) (hown : On w base e v m)
    {B n : Nat} {A : Option Addr} {l : List Int} {c : Nat} (hl : l.length = n) (hx : a.eval x = .slice A n c) (hr : Ns w B A l) (hn : A = none → c = 0) (h47 : m.length + l.length ≤ 8796093022208) (hbase : base ≤ w.heap.size)
    (h : ∀ v' w', On w' base e v' (m ++ l) → w.grownBy w' v.ownBlock → (v'.ownBlock = v.ownBlock ∨ v'.ownBlock = some w.heap.size) → K (a.put o.dst v') w') : o.wp P a w K Q := by
  subst hl
  obtain ⟨v', w', hrun, h2, h3, h4⟩ := run_iapp (P := P) (ty := o.type) w hT hown hr hn h47 hbase
  unfold Oper.wp execOp
  simp only [ho, resolve, invoke, builtin, Sem.run_bind, Sem.run_pure, Result.andThen_ok, List.map_toArray, List.map_cons, List.map_nil, hs, hx, hrun]
  exact h v' w' h2 h3 h4
theorem wpList_iapp {t e : TypeId} (hT : IsInts P t e) {ops : Array Oper} {rest : List Oper} {o : Oper} {a : Act} {Q : Exit → Act → World → Prop} (hgd : o.guard = none) (s x : Operand)
    (ho : o.op = .call { callee := .builtin .append, args := #[s, x], argTypes := #[t, t] })
    {base : Nat} {v : Value} {m : List Int} (hs : a.eval s = v) (hown : On w base e v m)
    {B n : Nat} {A : Option Addr} {l : List Int} {c : Nat} (hl : l.length = n) (hx : a.eval x = .slice A n c) (hr : Ns w B A l) (hn : A = none → c = 0) (h47 : m.length + l.length ≤ 8796093022208) (hbase : base ≤ w.heap.size)
    (h : ∀ v' w', On w' base e v' (m ++ l) → w.grownBy w' v.ownBlock → (v'.ownBlock = v.ownBlock ∨ v'.ownBlock = some w.heap.size) → wpList P ops Q rest (a.put o.dst v') w') : wpList P ops Q (o :: rest) a w :=
  wpList_plain hgd fun _ hK => wp_iapp w hT s x ho hs hown hl hx hr hn h47 hbase fun v' w' h2 h3 h4 => hK _ _ (h v' w' h2 h3 h4)
theorem step_iapp {t e : TypeId} (hT : IsInts P t e) {ops : Array Oper} {o : Oper} {a : Act} {K : Act → World → Prop} {Q : Exit → Act → World → Prop} {E : Prop} (hgd : o.guard = none) (s x : Operand)
    (ho : o.op = .call { callee := .builtin .append, args := #[s, x], argTypes := #[t, t] })
    {base : Nat} {v : Value} {m : List Int} (hs : a.eval s = v) (hown : On w base e v m)
    {B n : Nat} {A : Option Addr} {l : List Int} {c : Nat} (hl : l.length = n) (hx : a.eval x = .slice A n c) (hr : Ns w B A l) (hn : A = none → c = 0) (h47 : m.length + l.length ≤ 8796093022208) (hbase : base ≤ w.heap.size)
    (h : ∀ v' w', On w' base e v' (m ++ l) → w.grownBy w' v.ownBlock → (v'.ownBlock = v.ownBlock ∨ v'.ownBlock = some w.heap.size) → K (a.put o.dst v') w') :
    if Region.wanted o (yielded ops a.tmps) = true then Oper.wp P o a w K Q else E := by
  have hw : Region.wanted o (yielded ops a.tmps) = true := by simp [Region.wanted, hgd]
  rw [if_pos hw]
  exact wp_iapp w hT s x ho hs hown hl hx hr hn h47 hbase h
end
end Go.Proofs.Ytllhdgllgoanbaa.Ints
