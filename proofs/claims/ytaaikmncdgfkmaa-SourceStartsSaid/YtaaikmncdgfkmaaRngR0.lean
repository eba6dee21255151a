/-
  The reference of layer 7: insert, Of, Add.
-/
import Derived.Test.YtaaikmncdgfkmaaRngW1
namespace Go.Proofs.Ytaaikmncdgfkmaa.Rng
open Go.RowKit

theorem ins1_step {l : List R} {k : Nat} (h : k < l.length) (r : R) (h2 : l[k].2 < r.1) : l.take k ++ ins1 (l.drop k) r = l.take (k + 1) ++ ins1 (l.drop (k + 1)) r := by
  rw [List.drop_eq_getElem_cons h, ins1, if_pos h2, List.take_add_one, List.getElem?_eq_getElem h, Option.toList_some, List.append_assoc]; rfl
theorem ins1_ins2 {l : List R} {k : Nat} (h : k < l.length) (r : R) (h2 : ¬ l[k].2 < r.1) : ins1 (l.drop k) r = ins2 (l.drop k) r := by
  rw [List.drop_eq_getElem_cons h, ins1, if_neg h2]
theorem ins2_step {l : List R} {k : Nat} (h : k < l.length) (r : R) (h2 : l[k].1 ≤ r.2) : ins2 (l.drop k) r = ins2 (l.drop (k + 1)) (min r.1 l[k].1, max r.2 l[k].2) := by
  rw [List.drop_eq_getElem_cons h, ins2, if_pos h2]
theorem ins2_end {l : List R} {k : Nat} (h : k < l.length) (r : R) (h2 : ¬ l[k].1 ≤ r.2) : ins2 (l.drop k) r = r :: l.drop k := by
  rw [List.drop_eq_getElem_cons h, ins2, if_neg h2]

theorem bel_draws {B : Nat} {w w1 : World} (h : Below B w w1) (n : Nat) : Below B w (w1.drewN n) := h.trans (drewN_below w1 n)
theorem bel_drew {B : Nat} {w w1 : World} (h : Below B w w1) : Below B w w1.drew := h.trans ⟨rfl, rfl, rfl, Nat.le_refl _, fun _ _ => rfl⟩
theorem app_below {B base : Nat} {w w1 w2 : World} {v : Value} {C : Array Value} {l : List R} {e t : TypeId} (h : Below B w w1) (hB : B ≤ w1.heap.size) (hbase : B ≤ base) (ho : Os w1 base e v l)
    (hg : (w1.alloc (.cells C t)).grownBy w2 v.ownBlock) : Below B w w2 :=
  (h.alloc hB _).grown hg (by simp; omega) fun k hk => Nat.le_trans hbase (ho.base_le k hk)
theorem app_cel {base g : Nat} {w1 w2 : World} {v : Value} {C cs : Array Value} {l : List R} {e t t' : TypeId} (h : Cel w1 g t cs) (hbase : g < base) (ho : Os w1 base e v l)
    (hg : (w1.alloc (.cells C t')).grownBy w2 v.ownBlock) : Cel w2 g t cs :=
  h.grown hg fun he => by have := ho.base_le g he; omega

theorem Os.put {w : World} {base : Nat} {e : TypeId} {v : Value} {l : List R} (h : Os w base e v l) {g : Nat} (i : Nat) (hg : g < base) (u : Value) : Os (w.setCell ⟨g, i, none⟩ u) base e v l :=
  h.only ((Only.refl [g] w).put (p := ⟨g, i, none⟩) (.inl (by simp)) u) (fun j hj => by have := h.base_le j hj; simp; omega)
theorem wpList_rapp_n {P : Program} (w : World) {t e : TypeId} (hT : IsRanges P t e) {ops : Array Oper} {rest : List Oper} {o : Oper} {a : Act} {Q : Exit → Act → World → Prop} (hgd : o.guard = none) (s x : Operand)
    (ho : o.op = .call { callee := .builtin .append, args := #[s, x], argTypes := #[t, t] })
    {base : Nat} {v : Value} {m : List R} (hs : a.eval s = v) (hown : Os w base e v m)
    {B n : Nat} {A : Option Addr} {l : List R} {c : Nat} (hl : l.length = n) (hx : a.eval x = .slice A n c) (hr : Rs w B A l) (hn : A = none → c = 0) (h47 : m.length + l.length ≤ 8796093022208) (hbase : base ≤ w.heap.size)
    (h : ∀ v' w', Os w' base e v' (m ++ l) → w.grownBy w' v.ownBlock → (v'.ownBlock = v.ownBlock ∨ v'.ownBlock = some w.heap.size) → wpList P ops Q rest (a.put o.dst v') w') : wpList P ops Q (o :: rest) a w := by
  subst hl
  exact wpList_rapp w hT hgd s x ho hs hown hx hr hn h47 hbase h

theorem Os.addr {w : World} {base n c : Nat} {e : TypeId} {A : Option Addr} {l : List R} (h : Os w base e (.slice A n c) l) : (A = none ∧ c = 0) ∨ ∃ g, A = some ⟨g, 0, none⟩ := by
  rcases h.2 with ⟨he, _⟩ | ⟨g, cap, cur, he, _⟩
  · cases he; exact .inl ⟨rfl, rfl⟩
  · cases he; exact .inr ⟨g, rfl⟩
end Go.Proofs.Ytaaikmncdgfkmaa.Rng
