/-
  Slices of ranges in a world: Rs (reads as a list of ranges), Os (a slice of the call's own that holds a list of ranges); append. No dump is imported.
-/
import Derived.Test.YtaaikmncdgfkmaaRngMath
import Derived.Test.YtaaikmncdgfkmaaCel
namespace Go.Proofs.Ytaaikmncdgfkmaa.Rng
open Go.RowKit

abbrev I (n : Int) : Value := .int .i64 n
def enc (x : R) : List Value := [I x.1, I x.2]
def flat (l : List R) : List Value := l.flatMap enc
theorem flat_append (a b : List R) : flat (a ++ b) = flat a ++ flat b := List.flatMap_append
theorem flat_length : ∀ l : List R, (flat l).length = l.length * 2
  | [] => rfl
  | x :: l => by
    rw [show flat (x :: l) = enc x ++ flat l from rfl, List.length_append, flat_length l, List.length_cons, show (enc x).length = 2 from rfl]; omega
theorem flat_fst : ∀ {l : List R} {i : Nat} {x : R}, l[i]? = some x → (flat l)[i * 2]? = some (I x.1)
  | [], i, x, h => by simp at h
  | y :: l, 0, x, h => by simp at h; subst h; rfl
  | y :: l, i + 1, x, h => by
    have := flat_fst (l := l) (i := i) (x := x) (by simpa using h)
    rw [show (i + 1) * 2 = i * 2 + 1 + 1 by omega]
    simpa [flat, enc] using this
theorem flat_snd : ∀ {l : List R} {i : Nat} {x : R}, l[i]? = some x → (flat l)[i * 2 + 1]? = some (I x.2)
  | [], i, x, h => by simp at h
  | y :: l, 0, x, h => by simp at h; subst h; rfl
  | y :: l, i + 1, x, h => by
    have := flat_snd (l := l) (i := i) (x := x) (by simpa using h)
    rw [show (i + 1) * 2 + 1 = i * 2 + 1 + 1 + 1 by omega]
    simpa [flat, enc] using this
theorem flat_set : ∀ {l : List R} {i : Nat} {x : R} (z : Int), l[i]? = some x → (flat l).set (i * 2 + 1) (I z) = flat (l.set i (x.1, z))
  | [], i, x, z, h => by simp at h
  | y :: l, 0, x, z, h => by simp at h; subst h; rfl
  | y :: l, i + 1, x, z, h => by
    have := flat_set (l := l) (i := i) (x := x) z (by simpa using h)
    rw [show (i + 1) * 2 + 1 = i * 2 + 1 + 1 + 1 by omega]
    simpa [flat, enc] using this
theorem flat_one (l : List R) : ∀ u ∈ flat l, u.oneCell' = true := by
  intro u hu
  obtain ⟨x, _, hx⟩ := List.mem_flatMap.1 hu
  simp [enc] at hx
  rcases hx with rfl | rfl <;> rfl
theorem flat_at {l : List R} {j : Nat} {u : Value} (h : (flat l)[j]? = some u) : ∃ x, l[j / 2]? = some x ∧ ((j = j / 2 * 2 ∧ u = I x.1) ∨ (j = j / 2 * 2 + 1 ∧ u = I x.2)) := by
  have hj : j < l.length * 2 := by have := (List.getElem?_eq_some_iff.1 h).1; rwa [flat_length] at this
  have hx : l[j / 2]? = some (l[j / 2]'(by omega)) := List.getElem?_eq_getElem (by omega)
  refine ⟨_, hx, ?_⟩
  rcases Nat.mod_two_eq_zero_or_one j with h0 | h0
  · refine .inl ⟨by omega, ?_⟩
    have := flat_fst hx
    rw [show j / 2 * 2 = j by omega, h] at this
    exact Option.some.inj this
  · refine .inr ⟨by omega, ?_⟩
    have := flat_snd hx
    rw [show j / 2 * 2 + 1 = j by omega, h] at this
    exact Option.some.inj this

/-- type t is a slice of ranges, e the range's type -/
def IsRanges (P : Program) (t e : TypeId) : Prop :=
  P.underlying t = some (.slice e) ∧ ∃ i, P.info? e = some i ∧ i.zero = some (.agg #[I 0, I 0]) ∧ i.size = 2 ∧ i.bytes = 16

/-- 'A' leads to the ranges l, all below block B; of the empty list nothing is asked -/
def Rs (w : World) (B : Nat) (A : Option Addr) (l : List R) : Prop :=
  0 < l.length → ∃ b off, A = some ⟨b, off, none⟩ ∧ b < B ∧ ∀ i x, l[i]? = some x → w.cell? ⟨b, off + i * 2, none⟩ = some (I x.1) ∧ w.cell? ⟨b, off + i * 2 + 1, none⟩ = some (I x.2)
/-- v is a slice of the call's own (blocks from base on) that holds the ranges l -/
def Os (w : World) (base : Nat) (e : TypeId) (v : Value) (l : List R) : Prop := w.ownsRow base e 2 v l.length (flat l)

section
variable {w w' : World} {B B' : Nat} {a : Option Addr} {l : List R} {base : Nat} {e : TypeId} {v : Value} {S : List Nat}
theorem Rs.nil_ : Rs w B a [] := fun h => absurd h (by simp)
theorem Rs.keep (h : Rs w B a l) (hk : ∀ p : Addr, p.block < B → w'.cell? p = w.cell? p) : Rs w' B a l := fun hl => by
  obtain ⟨b, off, rfl, hb, hc⟩ := h hl
  exact ⟨b, off, rfl, hb, fun i x hx => ⟨(hk ⟨b, off + i * 2, none⟩ hb).trans (hc i x hx).1, (hk ⟨b, off + i * 2 + 1, none⟩ hb).trans (hc i x hx).2⟩⟩
theorem Rs.below (h : Rs w B a l) (hb : Below B w w') : Rs w' B a l := h.keep fun _ hp => hb.cell hp
theorem Rs.more (h : Rs w B a l) (hB : B ≤ B') : Rs w B' a l := fun hl => by
  obtain ⟨b, off, rfl, hb, hc⟩ := h hl
  exact ⟨b, off, rfl, by omega, hc⟩
theorem Rs.at_ (h : Rs w B a l) {k : Nat} (hk : k < l.length) : ∃ b off, a = some ⟨b, off, none⟩ ∧ b < B ∧ w.cell? ⟨b, off + k * 2, none⟩ = some (I l[k].1) ∧ w.cell? ⟨b, off + k * 2 + 1, none⟩ = some (I l[k].2) := by
  obtain ⟨b, off, rfl, hb, hc⟩ := h (by omega)
  exact ⟨b, off, rfl, hb, hc k _ (List.getElem?_eq_getElem hk)⟩

theorem Os.nil_ (w : World) (base : Nat) (e : TypeId) : Os w base e (.slice none 0 0) [] := ⟨rfl, .inl ⟨rfl, rfl⟩⟩
theorem Os.base_le (h : Os w base e v l) : ∀ k, v.ownBlock = some k → base ≤ k := fun k hk => (World.ownsRow.lt h k hk).1
theorem Os.lt (h : Os w base e v l) : ∀ i, v.ownBlock = some i → base ≤ i ∧ i < w.heap.size := World.ownsRow.lt h
theorem Os.only (h : Os w base e v l) (k : Only S w w') (hS : ∀ i, v.ownBlock = some i → i ∉ S) : Os w' base e v l := own_only h k hS
theorem Os.below (h : Os w base e v l) (hb : Below w.heap.size w w') : Os w' base e v l := h.only (Only.of_below (S := []) hb) (by simp)
theorem Os.alloc (h : Os w base e v l) (o : Obj) : Os (w.alloc o) base e v l := World.ownsRow.alloc h o
theorem Os.draws (h : Os w base e v l) (n : Nat) : Os (w.drewN n) base e v l := h
theorem Os.drew (h : Os w base e v l) : Os w.drew base e v l := World.ownsRow.drew h
theorem Os.more (h : Os w base e v l) {b' : Nat} (hb : b' ≤ base) : Os w b' e v l := by
  refine ⟨h.1, ?_⟩
  rcases h.2 with h2 | ⟨g, cap, cur, hv, hg, rest⟩
  · exact .inl h2
  · exact .inr ⟨g, cap, cur, hv, by omega, rest⟩
theorem Os.rebase (h : Os w base e v l) {b' : Nat} (hb : ∀ k, v.ownBlock = some k → b' ≤ k) : Os w b' e v l := by
  refine ⟨h.1, ?_⟩
  rcases h.2 with h2 | ⟨g, cap, cur, rfl, hg, rest⟩
  · exact .inl h2
  · exact .inr ⟨g, cap, cur, rfl, hb g rfl, rest⟩
theorem add_zero_cell (w : World) (g j : Nat) : w.cell? ((⟨g, 0, none⟩ : Addr).add j) = w.cell? ⟨g, j, none⟩ := by
  rcases Nat.eq_zero_or_pos j with rfl | hj
  · rfl
  · have hne : j ≠ 0 := by omega
    simp [Addr.add, hne]
theorem Os.reads (h : Os w base e v l) : ∃ A c, v = .slice A l.length c ∧ Rs w w.heap.size A l ∧ (A = none → c = 0) ∧ l.length ≤ c ∧ c ≤ maxLen := by
  have hcells := fun g cap (hv : v = .slice (some ⟨g, 0, none⟩) l.length cap) => World.ownsRow.cells h (g := g) (by rw [hv]; rfl)
  rcases h.2 with ⟨rfl, h0⟩ | ⟨g, cap, cur, rfl, _, hh, hn, hm, _⟩
  · have : l = [] := List.eq_nil_of_length_eq_zero h0
    subst this
    exact ⟨none, 0, rfl, Rs.nil_, fun _ => rfl, by simp, by simp⟩
  · refine ⟨some ⟨g, 0, none⟩, cap, rfl, fun hl => ⟨g, 0, rfl, lt_of_block hh, fun i x hx => ⟨?_, ?_⟩⟩, by simp, hn, hm⟩
    · have := hcells g cap rfl (i * 2) _ (flat_fst hx)
      rw [add_zero_cell] at this; simpa using this
    · have := hcells g cap rfl (i * 2 + 1) _ (flat_snd hx)
      rw [add_zero_cell] at this; simpa using this
theorem Os.reads_len {n : Nat} (h : Os w base e v l) (hl : l.length = n) : ∃ A c, v = .slice A n c ∧ Rs w w.heap.size A l ∧ (A = none → c = 0) ∧ n ≤ c ∧ c ≤ maxLen := by
  subst hl; exact h.reads
/-- what a slice of the call's own with an element looks like -/
theorem Os.form {m : Nat} (h : Os w base e v l) (hl : l.length = m + 1) : ∃ gr c, v = .slice (some ⟨gr, 0, none⟩) (m + 1) c ∧ base ≤ gr ∧ gr < w.heap.size ∧ m + 1 ≤ c ∧ c ≤ maxLen ∧
    (∀ i x, l[i]? = some x → w.cell? ⟨gr, i * 2, none⟩ = some (I x.1) ∧ w.cell? ⟨gr, i * 2 + 1, none⟩ = some (I x.2)) ∧ ∀ i, w.frozen? ⟨gr, i, none⟩ = false := by
  have hcells := fun g (hv : v.ownBlock = some g) => World.ownsRow.cells h (g := g) hv
  rcases h.2 with ⟨rfl, h0⟩ | ⟨g, cap, cur, rfl, hb, hh, hn, hm, _⟩
  · omega
  · refine ⟨g, cap, by rw [hl], hb, lt_of_block hh, by omega, hm, fun i x hx => ⟨?_, ?_⟩, fun i => Cel.free (t := e) hh i⟩
    · have := hcells g rfl (i * 2) _ (flat_fst hx); rw [add_zero_cell] at this; exact this
    · have := hcells g rfl (i * 2 + 1) _ (flat_snd hx); rw [add_zero_cell] at this; exact this
/-- the To of a range, written in place -/
theorem Os.set_ (h : Os w base e v l) {gr i : Nat} (hv : v.ownBlock = some gr) {x : R} (hx : l[i]? = some x) (z : Int) : Os (w.setCell ⟨gr, i * 2 + 1, none⟩ (I z)) base e v (l.set i (x.1, z)) := by
  obtain ⟨h1, h2⟩ := h
  refine ⟨by rw [flat_length], ?_⟩
  rcases h2 with ⟨rfl, _⟩ | ⟨g, cap, cur, rfl, hb, hg, hn, hm, hs, ht⟩
  · cases hv
  · injection hv with hv
    have hv' : g = gr := hv
    subst hv'
    refine .inr ⟨g, cap, cur.setIfInBounds (i * 2 + 1) (I z), by simp, hb, Cel.put (t := e) hg (i * 2 + 1) (I z), by simpa using hn, hm, by simpa using hs, ?_⟩
    rw [Array.toList_setIfInBounds, List.take_set, List.length_set, ht, flat_set z hx]
theorem Rs.only (h : Rs w B a l) (k : Only S w w') (hB : B ≤ w.heap.size) (hS : ∀ x ∈ S, B ≤ x) : Rs w' B a l := h.below (k.below hB hS)
theorem Rs.drop {b off : Nat} (h : Rs w B (some ⟨b, off, none⟩) l) (n : Nat) : Rs w B (some ⟨b, off + n * 2, none⟩) (l.drop n) := fun hl => by
  obtain ⟨_, _, he, hb, hc⟩ := h (by simp at hl; omega)
  cases he
  refine ⟨b, off + n * 2, rfl, hb, fun i x hx => ?_⟩
  have := hc (n + i) x (by rw [List.getElem?_drop] at hx; exact hx)
  rw [show off + n * 2 + i * 2 = off + (n + i) * 2 by omega]
  exact this
theorem Rs_new (w : World) (e : TypeId) (l : List R) (C : Array Value) (hC : C = (flat l).toArray) (B : Nat) (hB : w.heap.size < B) : Rs (w.alloc (.cells C e)) B (some ⟨w.heap.size, 0, none⟩) l := fun _ => by
  refine ⟨w.heap.size, 0, rfl, hB, fun i x hx => ?_⟩
  rw [Nat.zero_add, cell_of_row _ _ (i * 2) _ e (0, 0) (heap_alloc_new w _), cell_of_row _ _ (i * 2 + 1) _ e (0, 0) (heap_alloc_new w _), hC]
  exact ⟨by simpa using flat_fst hx, by simpa using flat_snd hx⟩
theorem Rs_new1 (w : World) (e : TypeId) (x y : Int) : Rs (w.alloc (.cells #[I x, I y] e)) (w.heap.size + 1) (some ⟨w.heap.size, 0, none⟩) [(x, y)] := Rs_new w e [(x, y)] _ rfl _ (by omega)
end

/-! ### append -/
section
variable {P : Program} (w : World)
theorem run_rapp {t e ty : TypeId} (hT : IsRanges P t e) {base : Nat} {v : Value} {m : List R} (hown : Os w base e v m)
    {B : Nat} {A : Option Addr} {l : List R} {c : Nat} (hr : Rs w B A l) (hn : A = none → c = 0) (h47 : m.length + l.length ≤ 8796093022208) (hbase : base ≤ w.heap.size) :
    ∃ v' w', (Builtin.append_ #[t, t] ty #[v, .slice A l.length c]).run P w = .ok v' w' ∧ Os w' base e v' (m ++ l) ∧ w.grownBy w' v.ownBlock ∧ (v'.ownBlock = v.ownBlock ∨ v'.ownBlock = some w.heap.size) := by
  obtain ⟨ht, i, hi, hz, h1, h2⟩ := hT
  cases A with
  | none =>
    have hl : l = [] := by
      rcases Nat.eq_zero_or_pos l.length with h0 | h0
      · exact List.eq_nil_of_length_eq_zero h0
      · obtain ⟨b, off, h, _⟩ := hr h0; cases h
    subst hl
    obtain rfl : c = 0 := hn rfl
    exact ⟨v, w, run_append_owned_none w base t ty e i 2 ht hi v m.length _ hown, by simpa using hown, World.grownBy.refl w _, .inl rfl⟩
  | some ad =>
    obtain ⟨v', w', hrun, ho, hg, _, h5⟩ := run_append_own_at (P := P) w base t ty e i (.agg #[I 0, I 0]) 2 16 ht hi hz h1 h2 rfl (by decide) v m.length (flat m) hown ad l.length c (flat l)
      (flat_length l) (fun j u hu => by
        have hj : j < l.length * 2 := by have := (List.getElem?_eq_some_iff.1 hu).1; rwa [flat_length] at this
        obtain ⟨x, hx, hxu⟩ := flat_at hu
        obtain ⟨b, off, he, _, hc⟩ := hr (by omega)
        injection he with he
        subst he
        have e2 : ∀ q, w.cell? ((⟨b, off, none⟩ : Addr).add q) = w.cell? ⟨b, off + q, none⟩ := fun q => by
          rcases Nat.eq_zero_or_pos q with rfl | hq
          · rfl
          · have hne : q ≠ 0 := by omega
            simp [Addr.add, hne]
        rw [e2]
        rcases hxu with ⟨hj0, rfl⟩ | ⟨hj0, rfl⟩
        · rw [hj0]; exact (hc _ x hx).1
        · rw [hj0]; exact (hc _ x hx).2) (flat_one l) (by unfold maxLen; omega) (by omega) hbase
    exact ⟨v', w', hrun, by unfold Os; rw [List.length_append, flat_append]; exact ho, hg, h5⟩

theorem wp_rapp {t e : TypeId} (hT : IsRanges P t e) {o : Oper} {a : Act} {K : Act → World → Prop} {Q : Exit → Act → World → Prop} (s x : Operand)
    (ho : o.op = .call { callee := .builtin .append, args := #[s, x], argTypes := #[t, t] })
    {base : Nat} {v : Value} {m : List R} (hs : a.eval s = v) (hown : Os w base e v m)
    {B : Nat} {A : Option Addr} {l : List R} {c : Nat} (hx : a.eval x = .slice A l.length c) (hr : Rs w B A l) (hn : A = none → c = 0) (h47 : m.length + l.length ≤ 8796093022208) (hbase : base ≤ w.heap.size)
    (h : ∀ v' w', Os w' base e v' (m ++ l) → w.grownBy w' v.ownBlock → (v'.ownBlock = v.ownBlock ∨ v'.ownBlock = some w.heap.size) → K (a.put o.dst v') w') : o.wp P a w K Q := by
  obtain ⟨v', w', hrun, h2, h3, h4⟩ := run_rapp (P := P) (ty := o.type) w hT hown hr hn h47 hbase
  unfold Oper.wp execOp
  simp only [ho, resolve, invoke, builtin, Sem.run_bind, Sem.run_pure, Result.andThen_ok, List.map_toArray, List.map_cons, List.map_nil, hs, hx, hrun]
  exact h v' w' h2 h3 h4
theorem wpList_rapp {t e : TypeId} (hT : IsRanges P t e) {ops : Array Oper} {rest : List Oper} {o : Oper} {a : Act} {Q : Exit → Act → World → Prop} (hgd : o.guard = none) (s x : Operand)
    (ho : o.op = .call { callee := .builtin .append, args := #[s, x], argTypes := #[t, t] })
    {base : Nat} {v : Value} {m : List R} (hs : a.eval s = v) (hown : Os w base e v m)
    {B : Nat} {A : Option Addr} {l : List R} {c : Nat} (hx : a.eval x = .slice A l.length c) (hr : Rs w B A l) (hn : A = none → c = 0) (h47 : m.length + l.length ≤ 8796093022208) (hbase : base ≤ w.heap.size)
    (h : ∀ v' w', Os w' base e v' (m ++ l) → w.grownBy w' v.ownBlock → (v'.ownBlock = v.ownBlock ∨ v'.ownBlock = some w.heap.size) → wpList P ops Q rest (a.put o.dst v') w') : wpList P ops Q (o :: rest) a w :=
  wpList_plain hgd fun _ hK => wp_rapp w hT s x ho hs hown hx hr hn h47 hbase fun v' w' h2 h3 h4 => hK _ _ (h v' w' h2 h3 h4)
theorem step_rapp {t e : TypeId} (hT : IsRanges P t e) {ops : Array Oper} {o : Oper} {a : Act} {K : Act → World → Prop} {Q : Exit → Act → World → Prop} {E : Prop} (hgd : o.guard = none) (s x : Operand)
    (ho : o.op = .call { callee := .builtin .append, args := #[s, x], argTypes := #[t, t] })
    {base : Nat} {v : Value} {m : List R} (hs : a.eval s = v) (hown : Os w base e v m)
    {B : Nat} {A : Option Addr} {l : List R} {c : Nat} (hx : a.eval x = .slice A l.length c) (hr : Rs w B A l) (hn : A = none → c = 0) (h47 : m.length + l.length ≤ 8796093022208) (hbase : base ≤ w.heap.size)
    (h : ∀ v' w', Os w' base e v' (m ++ l) → w.grownBy w' v.ownBlock → (v'.ownBlock = v.ownBlock ∨ v'.ownBlock = some w.heap.size) → K (a.put o.dst v') w') :
    if Region.wanted o (yielded ops a.tmps) = true then Oper.wp P o a w K Q else E := by
  have hw : Region.wanted o (yielded ops a.tmps) = true := by simp [Region.wanted, hgd]
  rw [if_pos hw]
  exact wp_rapp w hT s x ho hs hown hx hr hn h47 hbase h
end
end Go.Proofs.Ytaaikmncdgfkmaa.Rng
