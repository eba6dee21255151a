/-
  A byte slice of the call's own that may begin within its row: what is left where bytes were taken off its front, and append onto it. No dump is imported.
-/
import Derived.Test.YtcmonalnhdodmaaRowK
import Derived.ArgAppend
namespace Go.Proofs.Ytcmonalnhdodmaa
open Go.RowKit

/-- the block that an address lies in -/
def blkA (A : Option Addr) : List Nat := (A.map (·.block)).toList
theorem blkA_own (A : Option Addr) (n c : Nat) : blkA A = (Value.slice A n c).ownBlock.toList := by cases A <;> rfl

/-- (A, n, c) is a slice of the call's own (blocks from base on, element type e) that holds the bytes l; it may begin within its row -/
def Md (w : World) (base : Nat) (e : TypeId) (A : Option Addr) (n c : Nat) (l : List Byte) : Prop := l.length = n ∧
  ((A = none ∧ n = 0 ∧ c = 0) ∨ ∃ g off, ∃ cur : List Value, A = some ⟨g, off, none⟩ ∧ base ≤ g ∧ Cel w g e cur.toArray ∧ n ≤ c ∧ c ≤ maxLen ∧ off + c ≤ cur.length ∧ ∀ i x, l[i]? = some x → cur[off + i]? = some (B8 x))
section
variable {w w' : World} {base : Nat} {e : TypeId} {A : Option Addr} {n c : Nat} {l : List Byte} {S : List Nat}
theorem Md.nil_ (w : World) (base : Nat) (e : TypeId) : Md w base e none 0 0 [] := ⟨rfl, .inl ⟨rfl, rfl, rfl⟩⟩
theorem Md.lt (h : Md w base e A n c l) : ∀ x ∈ blkA A, base ≤ x ∧ x < w.heap.size := fun x hx => by
  rcases h.2 with ⟨rfl, _⟩ | ⟨g, off, cur, rfl, hb, hg, _⟩
  · cases hx
  · have : x = g := by simpa [blkA] using hx
    subst this
    exact ⟨hb, hg.lt⟩
theorem Md.cel (h : Md w base e A n c l) : ∀ x ∈ blkA A, ∃ cs, Cel w x e cs := fun x hx => by
  rcases h.2 with ⟨rfl, _⟩ | ⟨g, off, cur, rfl, hb, hg, _⟩
  · cases hx
  · have : x = g := by simpa [blkA] using hx
    subst this
    exact ⟨_, hg⟩
theorem Md.only (h : Md w base e A n c l) (k : Only S w w') (hS : ∀ x ∈ blkA A, x ∉ S) : Md w' base e A n c l := by
  obtain ⟨h1, h2⟩ := h
  refine ⟨h1, ?_⟩
  rcases h2 with h2 | ⟨g, off, cur, rfl, hb, hg, rest⟩
  · exact .inl h2
  · exact .inr ⟨g, off, cur, rfl, hb, hg.only k (hS g (by simp [blkA])), rest⟩
theorem Md.draws (h : Md w base e A n c l) (m : Nat) : Md (w.drewN m) base e A n c l := h
theorem Md.more (h : Md w base e A n c l) {b' : Nat} (hb : b' ≤ base) : Md w b' e A n c l := by
  obtain ⟨h1, h2⟩ := h
  refine ⟨h1, ?_⟩
  rcases h2 with h2 | ⟨g, off, cur, rfl, hb', rest⟩
  · exact .inl h2
  · exact .inr ⟨g, off, cur, rfl, by omega, rest⟩
theorem Md.reads (h : Md w base e A n c l) : Bs w w.heap.size A l ∧ (A = none → c = 0) ∧ n ≤ c ∧ c ≤ maxLen := by
  rcases h.2 with ⟨rfl, rfl, rfl⟩ | ⟨g, off, cur, rfl, hb, hg, h1, h2, h3, h4⟩
  · exact ⟨fun hl => by have := h.1; omega, fun _ => rfl, Nat.le_refl _, by simp⟩
  · refine ⟨fun _ => ⟨g, off, rfl, hg.lt, fun i x hx => ?_⟩, (fun h => nomatch h), h1, h2⟩
    rw [hg.cell, List.getElem?_toArray]
    exact h4 i x hx
theorem Md.of (h : Ow w base e (.slice A n c) l) (hn : l.length = n) : Md w base e A n c l := by
  subst hn
  refine ⟨rfl, ?_⟩
  rcases h.2 with ⟨he, h0⟩ | ⟨g, cap, cur, he, hb, hg, h1, h2, h3, h4⟩
  · injection he with e1 e2 e3
    exact .inl ⟨e1, h0, e3⟩
  · cases he
    refine .inr ⟨g, 0, cur.toList, rfl, hb, hg, h1, h2, by rw [Nat.zero_add, Array.length_toList]; omega, fun i x hx => ?_⟩
    rw [Nat.zero_add]
    have h5 : (cur.toList.take (l.length * 1))[i]? = some (B8 x) := by rw [h4, List.getElem?_map, hx]; rfl
    rw [List.getElem?_take] at h5
    split at h5
    · exact h5
    · cases h5
/-- what a slice expression 's[k:]' leaves -/
theorem Md.drop (h : Md w base e A n c l) {k : Nat} (hk : k ≤ n) : Md w base e (if c = k then A else A.map (fun x => x.add k)) (n - k) (c - k) (l.drop k) := by
  obtain ⟨h1, h2⟩ := h
  refine ⟨by rw [List.length_drop, h1], ?_⟩
  rcases h2 with ⟨rfl, rfl, rfl⟩ | ⟨g, off, cur, rfl, hb, hg, h3, h4, h5, h6⟩
  · exact .inl ⟨by split <;> rfl, by omega, by omega⟩
  · by_cases hc : c = k
    · rw [if_pos hc]
      refine .inr ⟨g, off, cur, rfl, hb, hg, by omega, by omega, by omega, fun i x hx => ?_⟩
      rw [List.getElem?_eq_none (by rw [List.length_drop]; omega)] at hx
      cases hx
    · rw [if_neg hc]
      refine .inr ⟨g, off + k, cur, ?_, hb, hg, by omega, by omega, by omega, fun i x hx => ?_⟩
      · simp [Addr.add]
      · rw [List.getElem?_drop] at hx
        have := h6 _ x hx
        rw [← Nat.add_assoc] at this
        exact this
theorem blkA_drop (A : Option Addr) (c k : Nat) : blkA (if c = k then A else A.map (fun x => x.add k)) = blkA A := by
  split
  · rfl
  · cases A with
    | none => rfl
    | some a => simp [blkA, Addr.add]; split <;> rfl
end

section
variable {P : Program} (w : World)
/-- append with room, onto a slice that begins within its row -/
theorem run_appendM (t ty e : TypeId) (g o n c : Nat) (a : Addr) (m c' : Nat) (cur : List Value) (T : TypeId) (news : List Value)
    (hu : P.underlying t = some (.slice e)) (hs : (P.info? e).map (·.size) = some 1) (hg : Cel w g T cur.toArray) (hl : news.length = m)
    (hsrc : ∀ j v, news[j]? = some v → w.cell? (a.add j) = some v) (hroom : n + m ≤ c) (hfit : o + n + news.length ≤ cur.length) (h1 : ∀ v ∈ news, v.oneCell' = true) :
    (Builtin.append_ #[t, t] ty #[.slice (some ⟨g, o, none⟩) n c, .slice (some a) m c']).run P w = .ok (.slice (some ⟨g, o, none⟩) (n + m) c) (w.setRow g (splice cur (o + n) news).toArray) := by
  have hst := run_storeCells_at P g (o + n) T news 0 cur.toArray w hg (by simpa using hfit) h1
  have esp : splice cur (o + n) news = cur.take (o + n + 0) ++ news ++ cur.drop (o + n + 0 + news.length) := by simp [splice]
  rw [esp]
  cases hq : P.info? e with
  | none => simp [hq] at hs
  | some i =>
    have hi : i.size = 1 := by simpa [hq] using hs
    have hfc := run_firstCells_some (P := P) w 1 m a m c' news (by simpa using hl) hsrc
    simp [Builtin.append_, run_underlying hu, sizeOf, typeInfo, hq, hi, Builtin.lenOf, hroom, hfc, Addr.add_lit, hst]
theorem splice_mid {cur news : List Value} {off : Nat} {m l : List Byte} (hn : news = l.map B8) (hfit : off + m.length + l.length ≤ cur.length) (h : ∀ i x, m[i]? = some x → cur[off + i]? = some (B8 x)) :
    ∀ i x, (m ++ l)[i]? = some x → (splice cur (off + m.length) news)[off + i]? = some (B8 x) := by
  subst hn
  intro i x hx
  unfold splice
  by_cases hi : i < m.length
  · rw [List.getElem?_append_left hi] at hx
    rw [List.getElem?_append_left (by rw [List.length_take]; omega), List.getElem?_take, if_pos (by omega)]
    exact h i x hx
  · rw [List.getElem?_append_right (by omega)] at hx
    have hlt := (List.getElem?_eq_some_iff.1 hx).1
    rw [List.getElem?_append_right (by rw [List.length_take]; omega), List.length_take, Nat.min_eq_left (by omega), List.getElem?_append_left (by rw [List.length_map]; omega), show off + i - (off + m.length) = i - m.length by omega, List.getElem?_map, hx]
    rfl

/-- append of some bytes onto such a slice -/
theorem run_mid {t e ty : TypeId} (hT : IsBytes P t e) {base : Nat} {A : Option Addr} {n c : Nat} {m : List Byte} (hown : Md w base e A n c m)
    {B : Nat} {A2 : Option Addr} {l : List Byte} {n2 c2 : Nat} (hl : l.length = n2) (hr : Bs w B A2 l) (h0 : 0 < n2) (h47 : n + n2 ≤ 140737488355328) (hbase : base ≤ w.heap.size) :
    ∃ A' c' w', (Builtin.append_ #[t, t] ty #[.slice A n c, .slice A2 n2 c2]).run P w = .ok (.slice A' (n + n2) c') w' ∧ Md w' base e A' (n + n2) c' (m ++ l) ∧ Only (blkA A) w w' ∧ ∀ x ∈ blkA A', x ∈ blkA A ∨ w.heap.size ≤ x := by
  subst hl
  have hmn := hown.1
  subst hmn
  obtain ⟨b2, off2, rfl, _, hc2⟩ := hr h0
  obtain ⟨ht, he8, i, hi, hz, h1, h2⟩ := hT
  have hnews : ∀ j v, (l.map B8)[j]? = some v → w.cell? ((⟨b2, off2, none⟩ : Addr).add j) = some v := fun j v hv => by
    rw [List.getElem?_map] at hv
    cases hx : l[j]? with
    | none => rw [hx] at hv; cases hv
    | some x =>
      rw [hx] at hv
      injection hv with hv
      subst hv
      rw [Addr.add_lit]
      exact hc2 j x hx
  rcases hown.2 with ⟨rfl, hm0, rfl⟩ | ⟨g, off, cur, rfl, hb, hg, hle, hmax, hfit, hcur⟩
  · have hmn : m = [] := List.eq_nil_of_length_eq_zero hm0
    subst hmn
    obtain ⟨v', w', hrun, ho, hgr, hv⟩ := run_app (P := P) (ty := ty) w ⟨ht, he8, i, hi, hz, h1, h2⟩ (m := []) (World.ownsRow_nil w base e 1) hr (c := c2) (fun h => nomatch h) (by simpa using h47) hbase
    obtain ⟨A', c', rfl, _⟩ := ho.reads
    refine ⟨A', c', w', by simpa using hrun, ?_, (Only.of_grown hgr).more (fun x hx => by cases hx), fun x hx => ?_⟩
    · have := Md.of ho rfl
      simpa using this
    · rw [blkA_own A' ([] ++ l).length c'] at hx
      have hx : (Value.slice A' ([] ++ l).length c').ownBlock = some x := by simpa using hx
      rcases hv with e | e <;> rw [e] at hx
      · cases hx
      · injection hx with hx; exact .inr (by omega)
  · by_cases hroom : m.length + l.length ≤ c
    · have hrun := run_appendM (P := P) w t ty e g off m.length c ⟨b2, off2, none⟩ l.length c2 cur e (l.map B8) ht (by rw [hi]; simp [h1]) hg (by simp) hnews hroom (by rw [List.length_map]; omega) (B8_one l)
      refine ⟨_, c, _, hrun, ⟨by simp, .inr ⟨g, off, _, rfl, hb, Row.Cel_row hg _, hroom, hmax, by rw [length_splice _ _ _ (by rw [List.length_map]; omega)]; exact hfit, splice_mid rfl (by omega) hcur⟩⟩, Row.only_setRow w g _, fun x hx => .inl hx⟩
    · have holds : ∀ j u, (m.map B8)[j]? = some u → w.cell? ((⟨g, off, none⟩ : Addr).add j) = some u := fun j u hu => by
        rw [List.getElem?_map] at hu
        cases hx : m[j]? with
        | none => rw [hx] at hu; cases hu
        | some x =>
          rw [hx] at hu
          injection hu with hu
          subst hu
          rw [Addr.add_lit, hg.cell, List.getElem?_toArray]
          exact hcur j x hx
      obtain ⟨v', w', hrun, ho, hgr⟩ := run_append_arg_grows (P := P) w t ty e i (.int .u8 0) 1 1 ht hi hz h1 h2 rfl (by decide) ⟨g, off, none⟩ m.length c (m.map B8) (by simp) holds ⟨b2, off2, none⟩ l.length c2 (l.map B8) (by simp) hnews (by omega) (by unfold maxLen; omega) (by omega)
      have ho' : Ow w' w.heap.size e v' (m ++ l) := by unfold Ow; rw [List.length_append, List.map_append]; exact ho
      obtain ⟨A', c', rfl, _⟩ := ho'.reads_len (n := m.length + l.length) (by simp)
      refine ⟨A', c', w', hrun, (Md.of ho' (by simp)).more hbase, (Only.of_grown hgr).more (fun x hx => by cases hx), fun x hx => ?_⟩
      rw [blkA_own A' (m.length + l.length) c'] at hx
      exact .inr (ho'.lt x (by simpa using hx)).1
end
end Go.Proofs.Ytcmonalnhdodmaa
