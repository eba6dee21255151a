/-
  Plain mathematics of the program's way to select a channel: the indexes of the foremost channels, their credits raised one by one, the first of the greatest; no Go in sight.
-/
import Derived.Test.YtpfhbojodapomaaMuxMath
namespace Go.Proofs.Ytpfhbojodapomaa.Mux

/-- in the order of the priorities, those of one priority in the order of the numbers -/
def Srt (L : List Ch) : Prop := L.Pairwise fun a b => a.pr < b.pr ∨ (a.pr = b.pr ∧ a.id ≤ b.id)
/-- the indexes, counted from s on, of the channels that f picks -/
def ix (f : Ch → Bool) : Nat → List Ch → List Nat
  | _, [] => []
  | s, x :: l => if f x then s :: ix f (s + 1) l else ix f (s + 1) l
def rdy (rd : List Int) (x : Ch) : Bool := decide (x.id ∈ rd)

theorem ix_append (f : Ch → Bool) : ∀ (l m : List Ch) (s : Nat), ix f s (l ++ m) = ix f s l ++ ix f (s + l.length) m
  | [], m, s => by simp [ix]
  | x :: l, m, s => by
    simp only [List.cons_append, ix, ix_append f l m (s + 1), List.length_cons]
    rw [show s + 1 + l.length = s + (l.length + 1) by omega]
    split <;> rfl
theorem ix_none {f : Ch → Bool} : ∀ {l : List Ch} {s : Nat}, (∀ x ∈ l, f x = false) → ix f s l = []
  | [], _, _ => rfl
  | x :: l, s, h => by simp only [ix, h x (by simp)]; exact ix_none fun y hy => h y (by simp [hy])
theorem ix_congr {f g : Ch → Bool} : ∀ {l : List Ch} {s : Nat}, (∀ x ∈ l, f x = g x) → ix f s l = ix g s l
  | [], _, _ => rfl
  | x :: l, s, h => by
    simp only [ix, h x (by simp)]
    rw [ix_congr (g := g) fun y hy => h y (by simp [hy])]
theorem ix_mem {f : Ch → Bool} : ∀ {l : List Ch} {s i : Nat}, i ∈ ix f s l ↔ ∃ k, i = s + k ∧ ∃ h : k < l.length, f l[k] = true
  | [], s, i => by simp [ix]
  | x :: l, s, i => by
    have ih := ix_mem (f := f) (l := l) (s := s + 1) (i := i)
    have key : (∃ k, i = s + k ∧ ∃ h : k < (x :: l).length, f (x :: l)[k] = true) ↔ (i = s ∧ f x = true) ∨ i ∈ ix f (s + 1) l := by
      rw [ih]
      constructor
      · rintro ⟨k, e, h, hf⟩
        cases k with
        | zero => exact .inl ⟨e, hf⟩
        | succ k => exact .inr ⟨k, by omega, by simpa using h, by simpa using hf⟩
      · rintro (⟨e, hf⟩ | ⟨k, e, h, hf⟩)
        · exact ⟨0, e, by simp, hf⟩
        · exact ⟨k + 1, by omega, by simpa using h, by simpa using hf⟩
    have e : ix f s (x :: l) = if f x then s :: ix f (s + 1) l else ix f (s + 1) l := rfl
    rw [key, e]
    cases hf : f x <;> simp
theorem ix_len {f : Ch → Bool} : ∀ {l : List Ch} {s : Nat}, (ix f s l).length ≤ l.length
  | [], _ => by simp [ix]
  | x :: l, s => by
    have := ix_len (f := f) (l := l) (s := s + 1)
    unfold ix
    split <;> simp only [List.length_cons] <;> omega
theorem ix_up {f : Ch → Bool} : ∀ {l : List Ch} {s : Nat}, (ix f s l).Pairwise (· < ·)
  | [], _ => by simp [ix]
  | x :: l, s => by
    have ih := ix_up (f := f) (l := l) (s := s + 1)
    unfold ix
    split
    · refine List.pairwise_cons.2 ⟨fun i hi => ?_, ih⟩
      obtain ⟨k, e, _⟩ := ix_mem.1 hi
      omega
    · exact ih

/-! ### foremost -/
/-- behind the first k channels of L the indexes acc have been gathered -/
def FI (rd : List Int) (L : List Ch) (k : Nat) (acc : List Nat) : Prop :=
  ∃ A B, L.take k = A ++ B ∧ (∀ x ∈ A, x.id ∉ rd) ∧ acc = ix (rdy rd) A.length B ∧ (B = [] ∨ ∃ b B', B = b :: B' ∧ b.id ∈ rd ∧ ∀ x ∈ B, x.pr = b.pr)
/-- acc are the indexes of the foremost channels that are ready -/
def Fm (rd : List Int) (L : List Ch) (acc : List Nat) : Prop :=
  (acc = [] ∧ ∀ x ∈ L, x.id ∉ rd) ∨ ∃ p, acc ≠ [] ∧ acc = ix (el rd p) 0 L ∧ ∀ x ∈ L, x.id ∈ rd → p ≤ x.pr
theorem rdy_iff {rd : List Int} {x : Ch} : rdy rd x = true ↔ x.id ∈ rd := by simp [rdy]
theorem FI.zero (rd : List Int) (L : List Ch) : FI rd L 0 [] := ⟨[], [], by simp, by simp, rfl, .inl rfl⟩
section
variable {rd : List Int} {L : List Ch} {k : Nat} {acc : List Nat}
/-- the first of the indexes -/
theorem FI.head (h : FI rd L k acc) : acc = [] ∨ ∃ (i : Nat) (t : List Nat), acc = i :: t ∧ i < k ∧ i < L.length := by
  obtain ⟨A, B, h1, _, rfl, rfl | ⟨b, B', rfl, hb, _⟩⟩ := h
  · exact .inl rfl
  · have h2 := congrArg List.length h1
    rw [List.length_take, List.length_append, List.length_cons] at h2
    exact .inr ⟨A.length, _, by simp only [ix, rdy_iff.2 hb, if_true]; rfl, by omega, by omega⟩
theorem FI.len (h : FI rd L k acc) : acc.length ≤ k := by
  obtain ⟨A, B, h1, _, rfl, _⟩ := h
  have h2 := congrArg List.length h1
  rw [List.length_take, List.length_append] at h2
  have := ix_len (f := rdy rd) (l := B) (s := A.length)
  omega
theorem FI.pr {t : List Nat} {i : Nat} (h : FI rd L k (i :: t)) : ∃ A b B', L.take k = A ++ b :: B' ∧ i = A.length ∧ (∀ x ∈ A, x.id ∉ rd) ∧ i :: t = ix (rdy rd) A.length (b :: B') ∧ b.id ∈ rd ∧ (∀ x ∈ b :: B', x.pr = b.pr) ∧ ∀ hi : i < L.length, L[i] = b := by
  obtain ⟨A, B, h1, h2, h3, h4⟩ := h
  rcases h4 with rfl | ⟨b, B', rfl, hb, hp⟩
  · cases h3
  · have h5 := h3
    simp only [ix, rdy_iff.2 hb, if_true] at h5
    injection h5 with h5 h6
    refine ⟨A, b, B', h1, h5, h2, h3, hb, hp, fun hi => ?_⟩
    have h7 : (L.take k)[i]? = some b := by rw [h1, h5]; simp
    rw [List.getElem?_take] at h7
    split at h7
    · rw [List.getElem?_eq_getElem hi] at h7
      exact Option.some.inj h7
    · cases h7
theorem take_at (hk : k < L.length) : L.take (k + 1) = L.take k ++ [L[k]] := by rw [List.take_add_one, List.getElem?_eq_getElem hk]; rfl
theorem FI.skip0 (h : FI rd L k []) (hk : k < L.length) (hr : L[k].id ∉ rd) : FI rd L (k + 1) [] := by
  obtain ⟨A, B, h1, h2, h3, rfl | ⟨b, B', rfl, hb, hp⟩⟩ := h
  · refine ⟨A ++ [L[k]], [], by rw [take_at hk, h1]; simp, fun x hx => ?_, rfl, .inl rfl⟩
    rcases List.mem_append.1 hx with hx | hx
    · exact h2 x hx
    · rw [List.mem_singleton.1 hx]; exact hr
  · simp only [ix, rdy_iff.2 hb, if_true] at h3
    cases h3
theorem FI.take0 (h : FI rd L k []) (hk : k < L.length) (hr : L[k].id ∈ rd) : FI rd L (k + 1) [k] := by
  obtain ⟨A, B, h1, h2, h3, rfl | ⟨b, B', rfl, hb, hp⟩⟩ := h
  · have hl := congrArg List.length h1
    rw [List.length_take, List.length_append, List.length_nil] at hl
    refine ⟨A, [L[k]], by rw [take_at hk, h1]; simp, h2, ?_, .inr ⟨L[k], [], rfl, hr, by simp⟩⟩
    simp only [ix, rdy_iff.2 hr, if_true]
    congr 1; omega
  · simp only [ix, rdy_iff.2 hb, if_true] at h3
    cases h3
theorem FI.skip1 {i : Nat} {t : List Nat} (h : FI rd L k (i :: t)) (hi : i < L.length) (hk : k < L.length) (hp : L[k].pr = L[i].pr) (hr : L[k].id ∉ rd) : FI rd L (k + 1) (i :: t) := by
  obtain ⟨A, b, B', h1, h2, h3, h4, h5, h6, h7⟩ := h.pr
  refine ⟨A, b :: B' ++ [L[k]], by rw [take_at hk, h1]; simp, h3, ?_, .inr ⟨b, B' ++ [L[k]], rfl, h5, fun x hx => ?_⟩⟩
  · rw [ix_append, ← h4, ix_none (l := [L[k]])]
    · simp
    · intro x hx; rw [List.mem_singleton.1 hx]; simpa [rdy] using hr
  · rcases List.mem_append.1 hx with hx | hx
    · exact h6 x hx
    · rw [List.mem_singleton.1 hx, hp, h7 hi]
theorem FI.take1 {i : Nat} {t : List Nat} (h : FI rd L k (i :: t)) (hi : i < L.length) (hk : k < L.length) (hp : L[k].pr = L[i].pr) (hr : L[k].id ∈ rd) : FI rd L (k + 1) (i :: t ++ [k]) := by
  obtain ⟨A, b, B', h1, h2, h3, h4, h5, h6, h7⟩ := h.pr
  have hl := congrArg List.length h1
  rw [List.length_take, List.length_append] at hl
  refine ⟨A, b :: B' ++ [L[k]], by rw [take_at hk, h1]; simp, h3, ?_, .inr ⟨b, B' ++ [L[k]], rfl, h5, fun x hx => ?_⟩⟩
  · rw [ix_append, ← h4]
    simp only [ix, rdy_iff.2 hr, if_true]
    congr 2; omega
  · rcases List.mem_append.1 hx with hx | hx
    · exact h6 x hx
    · rw [List.mem_singleton.1 hx, hp, h7 hi]
theorem FI.all (h : FI rd L L.length acc) : Fm rd L acc := by
  obtain ⟨A, B, h1, h2, rfl, h4⟩ := h
  rw [List.take_length] at h1
  rcases h4 with rfl | ⟨b, B', rfl, hb, hp⟩
  · exact .inl ⟨rfl, fun x hx => h2 x (by rw [h1] at hx; simpa using hx)⟩
  · refine .inr ⟨b.pr, by simp only [ix, rdy_iff.2 hb, if_true]; simp, ?_, fun x hx hr => ?_⟩
    · conv => rhs; rw [h1]
      rw [ix_append, ix_none (l := A), List.nil_append, Nat.zero_add]
      · exact ix_congr fun x hx => by simp [rdy, el, hp x hx]
      · intro x hx; simp [el, h2 x hx]
    · rw [h1] at hx
      rcases List.mem_append.1 hx with hx | hx
      · exact absurd hr (h2 x hx)
      · rw [hp x hx]; exact Int.le_refl _
theorem FI.stop {i : Nat} {t : List Nat} (h : FI rd L k (i :: t)) (hs : Srt L) (hi : i < L.length) (hk : k < L.length) (hp : L[k].pr ≠ L[i].pr) : Fm rd L (i :: t) := by
  obtain ⟨A, b, B', h1, h2, h3, h4, h5, h6, h7⟩ := h.pr
  have hL : L = A ++ b :: B' ++ L.drop k := by rw [← h1, List.take_append_drop]
  have hC : ∀ x ∈ L.drop k, b.pr < x.pr := by
    have hs' := hs
    unfold Srt at hs'
    rw [hL, List.pairwise_append] at hs'
    have hd : L.drop k = L[k] :: L.drop (k + 1) := List.drop_eq_getElem_cons hk
    have hm : L[k] ∈ L.drop k := by rw [hd]; exact List.mem_cons_self
    have h8 := hs'.2.2 b (by simp) L[k] hm
    have h9 := hs'.2.1
    rw [hd, List.pairwise_cons] at h9
    rw [h7 hi] at hp
    intro x hx
    rw [hd] at hx
    rcases List.mem_cons.1 hx with rfl | hx
    · omega
    · have := h9.1 x hx
      omega
  refine .inr ⟨b.pr, by simp, ?_, fun x hx hr => ?_⟩
  · conv => rhs; rw [hL]
    rw [ix_append, ix_append, ix_none (l := A), ix_none (l := L.drop k), List.nil_append, List.append_nil, Nat.zero_add, h4]
    · exact ix_congr fun x hx => by simp [rdy, el, h6 x hx]
    · intro x hx
      have := hC x hx
      have h9 : ¬ x.pr = b.pr := by omega
      simp [el, h9]
    · intro x hx; simp [el, h3 x hx]
  · rw [hL] at hx
    rcases List.mem_append.1 hx with hx | hx
    · rcases List.mem_append.1 hx with hx | hx
      · exact absurd hr (h3 x hx)
      · rw [h6 x hx]; exact Int.le_refl _
    · exact Int.le_of_lt (hC x hx)
end

/-! ### the credits raised one by one -/
def bump (x : Ch) : Ch := ⟨x.id, x.pr, x.wt, x.cr + x.wt, x.sn⟩
def bmp (f : Ch → Bool) (x : Ch) : Ch := if f x then bump x else x
/-- one of the indexes -/
def stp (s : List Ch × Int) (i : Nat) : List Ch × Int := (s.1.modify i bump, s.2 + (s.1.getD i default).wt)
def wsf (f : Ch → Bool) : List Ch → Int
  | [] => 0
  | x :: l => (if f x then x.wt else 0) + wsf f l
theorem wsf_el (rd : List Int) (p : Int) : ∀ L : List Ch, wsf (el rd p) L = ws rd p L
  | [] => rfl
  | x :: l => by simp only [wsf, ws, wsf_el rd p l]
theorem modify_set {f : Ch → Ch} {L : List Ch} {i : Nat} (h : i < L.length) : L.modify i f = L.set i (f L[i]) := by
  apply List.ext_getElem (by simp)
  intro j h1 h2
  rw [List.getElem_modify, List.getElem_set]
  split
  · next e => subst e; rfl
  · rfl
theorem stp_set {L : List Ch} {s : Int} {i : Nat} (h : i < L.length) : stp (L, s) i = (L.set i (bump L[i]), s + L[i].wt) := by
  unfold stp
  rw [modify_set h]
  simp [h]
theorem stp_all (f : Ch → Bool) : ∀ (l pre : List Ch) (s : Int), (ix f pre.length l).foldl stp (pre ++ l, s) = (pre ++ l.map (bmp f), s + wsf f l)
  | [], pre, s => by simp [ix, wsf]
  | x :: l, pre, s => by
    have h1 := fun (y : Ch) (t : Int) => stp_all f l (pre ++ [y]) t
    simp only [List.length_append, List.length_cons, List.length_nil, Nat.zero_add, List.append_assoc, List.singleton_append] at h1
    unfold ix
    cases hf : f x with
    | true =>
      rw [if_pos rfl, List.foldl_cons]
      have e : stp (pre ++ x :: l, s) pre.length = (pre ++ bump x :: l, s + x.wt) := by
        rw [stp_set (by simp)]
        simp
      rw [e, h1]
      simp only [List.map_cons, bmp, hf, if_true, wsf]
      rw [Int.add_assoc]
    | false =>
      rw [if_neg (by simp), h1]
      simp [bmp, hf, wsf]
theorem stp_len (s : List Ch × Int) (i : Nat) : (stp s i).1.length = s.1.length := by simp [stp]
theorem fold_len : ∀ (l : List Nat) (s : List Ch × Int), (l.foldl stp s).1.length = s.1.length
  | [], _ => rfl
  | i :: l, s => by rw [List.foldl_cons, fold_len l, stp_len]
/-- the bounds of the numbers while the credits are raised -/
structure Bnd (M : Int) (t : Nat) (L : List Ch) (s : Int) : Prop where
  w : ∀ x ∈ L, 1 ≤ x.wt ∧ x.wt ≤ 100
  c : ∀ x ∈ L, -M ≤ x.cr ∧ x.cr ≤ M + 100 * t
  s0 : 0 ≤ s
  s1 : s ≤ 100 * t
theorem Bnd.next {M s : Int} {t : Nat} {L : List Ch} {i : Nat} (h : Bnd M t L s) (hi : i < L.length) : Bnd M (t + 1) (L.set i (bump L[i])) (s + L[i].wt) := by
  have hw := h.w L[i] (List.getElem_mem hi)
  have hc := h.c L[i] (List.getElem_mem hi)
  have h0 := h.s0
  have h1 := h.s1
  refine ⟨fun x hx => ?_, fun x hx => ?_, by omega, by omega⟩
  · rcases List.mem_or_eq_of_mem_set hx with hx | rfl
    · exact h.w x hx
    · exact hw
  · rcases List.mem_or_eq_of_mem_set hx with hx | rfl
    · have := h.c x hx
      omega
    · show -M ≤ L[i].cr + L[i].wt ∧ L[i].cr + L[i].wt ≤ _
      omega

/-! ### the greatest -/
def cre (L : List Ch) (i : Nat) : Int := (L.getD i default).cr
/-- m is the first of the greatest -/
def Mx (L : List Ch) (acc : List Nat) (m : Nat) : Prop := m ∈ acc ∧ ∀ i ∈ acc, cre L i < cre L m ∨ (cre L i = cre L m ∧ m ≤ i)
theorem Mx.one (L : List Ch) (m : Nat) : Mx L [m] m := ⟨by simp, fun i hi => .inr (by rw [List.mem_singleton.1 hi]; exact ⟨rfl, Nat.le_refl _⟩)⟩
theorem Mx.more {L : List Ch} {acc : List Nat} {m i : Nat} (h : Mx L acc m) (hc : cre L m < cre L i) : Mx L (acc ++ [i]) i := by
  refine ⟨by simp, fun j hj => ?_⟩
  rcases List.mem_append.1 hj with hj | hj
  · have := h.2 j hj
    omega
  · rw [List.mem_singleton.1 hj]; exact .inr ⟨rfl, Nat.le_refl _⟩
theorem Mx.less {L : List Ch} {acc : List Nat} {m i : Nat} (h : Mx L acc m) (hc : ¬ cre L m < cre L i) (hi : m ≤ i) : Mx L (acc ++ [i]) m := by
  refine ⟨List.mem_append_left _ h.1, fun j hj => ?_⟩
  rcases List.mem_append.1 hj with hj | hj
  · exact h.2 j hj
  · rw [List.mem_singleton.1 hj]; omega

/-- the selected one -/
def fin (s : Int) (x : Ch) : Ch := ⟨x.id, x.pr, x.wt, x.cr - s, x.sn + 1⟩
theorem cre_of {L : List Ch} {i : Nat} (h : i < L.length) : cre L i = L[i].cr := by unfold cre; simp [h]
theorem next_is {rd : List Int} {L : List Ch} {acc : List Nat} {p : Int} {m : Nat} (g : Good L) (hs : Srt L) (ha : acc = ix (el rd p) 0 L) (hmin : ∀ x ∈ L, x.id ∈ rd → p ≤ x.pr)
    (hm : Mx (L.map (bmp (el rd p))) acc m) (hml : m < L.length) : Nx rd L (some L[m].id) ((L.map (bmp (el rd p))).modify m (fin (ws rd p L))) := by
  have hat : ∀ i (hi : i < L.length), cre (L.map (bmp (el rd p))) i = if el rd p L[i] then L[i].cr + L[i].wt else L[i].cr := by
    intro i hi
    rw [cre_of (by simpa using hi), List.getElem_map]
    unfold bmp
    split <;> rfl
  obtain ⟨h1, h2⟩ := hm
  rw [ha] at h1 h2
  obtain ⟨k, e, hk, hel⟩ := ix_mem.1 h1
  obtain rfl : m = k := by omega
  refine .inr ⟨p, L[m], List.getElem_mem hml, hel, hmin, fun x hx he => ?_, rfl, ?_⟩
  · obtain ⟨i, hi, rfl⟩ := List.getElem_of_mem hx
    have h3 := h2 i (ix_mem.2 ⟨i, by omega, hi, he⟩)
    rw [hat i hi, hat m hml, if_pos he, if_pos hel] at h3
    rcases h3 with h3 | ⟨h3, h4⟩
    · exact .inl h3
    · refine .inr ⟨h3, ?_⟩
      rcases Nat.lt_or_ge m i with h5 | h5
      · have h6 := (List.pairwise_iff_getElem.1 hs) m i hml hi h5
        have e1 := (el_iff.1 he).2
        have e2 := (el_iff.1 hel).2
        omega
      · obtain rfl : m = i := by omega
        exact Int.le_refl _
  · apply List.ext_getElem (by simp)
    intro i hi1 hi2
    have hi : i < L.length := by simpa using hi2
    rw [List.getElem_modify, List.getElem_map, List.getElem_map]
    unfold up bmp
    by_cases him : m = i
    · subst him
      rw [if_pos rfl, if_pos hel, if_pos hel, if_pos rfl]
      rfl
    · rw [if_neg him]
      by_cases he : el rd p L[i] = true
      · rw [if_pos he, if_pos he, if_neg]
        · rfl
        · intro e'
          have h7 : (ids L)[i]'(by simpa [ids] using hi) = (ids L)[m]'(by simpa [ids] using hml) := by simpa [ids] using e'
          have h8 := List.pairwise_iff_getElem.1 g.nod
          rcases Nat.lt_or_ge i m with h9 | h9
          · exact h8 i m _ _ h9 h7
          · exact h8 m i _ _ (by omega) h7.symm
      · rw [if_neg he, if_neg he]
theorem none_is {rd : List Int} {L : List Ch} (h : ∀ x ∈ L, x.id ∉ rd) : Nx rd L none L := .inl ⟨rfl, rfl, h⟩
theorem Nx.srt {rd : List Int} {L L' : List Ch} {r : Option Int} (h : Nx rd L r L') (s : Srt L) : Srt L' := by
  rcases h with ⟨_, rfl, _⟩ | ⟨p, b, _, _, _, _, _, rfl⟩
  · exact s
  · unfold Srt at s ⊢
    rw [List.pairwise_map]
    exact s.imp fun {x y} h => by rw [up_pr, up_pr, up_id, up_id]; exact h
end Go.Proofs.Ytpfhbojodapomaa.Mux
