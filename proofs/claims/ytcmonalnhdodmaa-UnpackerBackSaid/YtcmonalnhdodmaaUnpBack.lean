/-
  Plain mathematics of P20.4: a stream of whole packets cut into data fields, what the unpacker makes of a field.
-/
import Derived.Test.YtcmonalnhdodmaaUnpMath
namespace Go.Proofs.Ytcmonalnhdodmaa.Unp
open Pac

/-- a whole packet -/
structure Wp (p : List Byte) : Prop where
  e : siE p = 0
  n : tot p = p.length
theorem Wp.seven {p : List Byte} (h : Wp p) : 7 ≤ p.length := by rw [← h.n]; exact tot_seven p
theorem idl_front {p b : List Byte} (h : 2 ≤ p.length) : idl (p ++ b) = idl p := by unfold idl; rw [b8_front (by omega), b8_front (by omega)]
theorem prs_cons {p : List Byte} (h : Wp p) (b : List Byte) : prs (p ++ b) = ((if idl p then [] else [p]) ++ (prs b).1, (prs b).2) := by
  have h7 := h.seven
  obtain ⟨e1, e2⟩ := si_front (r := p) (d := b) (by omega)
  rw [prs_one (by rw [e1, h.e]) (by rw [e2, h.n, List.length_append]; omega), e2, h.n, idl_front (by omega), List.take_left, List.drop_left]
theorem prs_part {p x t : List Byte} (h : Wp p) (hp : p = x ++ t) (ht : t ≠ []) : prs x = ([], x) := by
  by_cases h6 : x.length < 6
  · exact prs_few h6
  · obtain ⟨e1, e2⟩ := si_front (r := x) (d := t) (by omega)
    rw [← hp] at e1 e2
    have : 0 < t.length := List.length_pos_iff.2 ht
    have hl := congrArg List.length hp
    rw [List.length_append] at hl
    exact prs_wait (by rw [← e1, h.e]) (by rw [← e2, h.n]; omega)
/-- not an idle packet -/
def ni (p : List Byte) : Bool := !idl p
theorem prs_list {qs : List (List Byte)} (h : ∀ p ∈ qs, Wp p) (b : List Byte) : prs (qs.flatten ++ b) = (qs.filter ni ++ (prs b).1, (prs b).2) := by
  induction qs with
  | nil => simp
  | cons p qs ih =>
    rw [List.flatten_cons, List.append_assoc, prs_cons (h p (by simp)), ih (fun q hq => h q (by simp [hq]))]
    simp only [List.filter_cons, ni]
    by_cases hb : idl p = true <;> simp [hb]

/-- where packet i begins -/
def bnd (ps : List (List Byte)) (i : Nat) : Nat := (ps.take i).flatten.length
section
variable {ps : List (List Byte)} {a e i i' j f : Nat} {h h' p : List Byte}
theorem bnd_zero : bnd ps 0 = 0 := by simp [bnd]
theorem bnd_next (hp : ps[i]? = some p) : bnd ps (i + 1) = bnd ps i + p.length := by
  unfold bnd
  rw [List.take_add_one, hp]
  simp
theorem bnd_le (hij : i ≤ j) : bnd ps i ≤ bnd ps j := by
  unfold bnd
  obtain ⟨k, rfl⟩ := Nat.le.dest hij
  rw [List.take_add, List.flatten_append, List.length_append]
  omega
theorem bnd_all (hi : ps.length ≤ i) : bnd ps i = ps.flatten.length := by unfold bnd; rw [List.take_of_length_le hi]
theorem bnd_top (i : Nat) : bnd ps i ≤ ps.flatten.length := by
  by_cases hi : ps.length ≤ i
  · rw [bnd_all hi]; exact Nat.le_refl _
  · rw [← bnd_all (Nat.le_refl ps.length)]; exact bnd_le (by omega)
theorem bnd_lt (hw : ∀ p ∈ ps, Wp p) (hi : i < ps.length) : bnd ps i + 7 ≤ bnd ps (i + 1) := by
  have hp : ps[i]? = some ps[i] := List.getElem?_eq_getElem hi
  rw [bnd_next hp]
  have := (hw ps[i] (List.getElem_mem hi)).seven
  omega

/-- position a of the stream: i packets lie ahead, of packet i the bytes x -/
structure Pos (ps : List (List Byte)) (a i : Nat) (x : List Byte) : Prop where
  le : i ≤ ps.length
  t : ps.flatten.take a = (ps.take i).flatten ++ x
  al : a = bnd ps i + x.length
  x : x = [] ∨ ∃ p t, ps[i]? = some p ∧ p = x ++ t ∧ t ≠ []
theorem Pos.start : Pos ps 0 0 [] := ⟨Nat.zero_le _, by simp, by simp [bnd], .inl rfl⟩
theorem flat_split (i : Nat) : ps.flatten = (ps.take i).flatten ++ (ps.drop i).flatten := by rw [← List.flatten_append, List.take_append_drop]
/-- every position is one -/
theorem Pos.ex (ha : a ≤ ps.flatten.length) (hw : ∀ p ∈ ps, Wp p) : ∃ i x, Pos ps a i x := by
  induction a with
  | zero => exact ⟨0, [], .start⟩
  | succ a ih =>
    obtain ⟨i, x, hle, ht, hal, hx⟩ := ih (by omega)
    have hfl := flat_split (ps := ps) i
    have hlt : i < ps.length := by
      rcases hx with rfl | ⟨p, t, hp, _⟩
      · apply Classical.byContradiction
        intro c
        rw [bnd_all (by omega), List.length_nil] at hal
        omega
      · exact (List.getElem?_eq_some_iff.1 hp).1
    obtain ⟨p, hp⟩ : ∃ p, ps[i]? = some p := ⟨_, List.getElem?_eq_getElem hlt⟩
    have hdrop : ps.drop i = p :: ps.drop (i + 1) := by
      rw [List.drop_eq_getElem_cons hlt]
      rw [List.getElem?_eq_getElem hlt] at hp
      injection hp with hp
      rw [hp]
    have hwp := (hw p (List.mem_of_getElem? hp)).seven
    obtain ⟨t, hpx, hte⟩ : ∃ t, p = x ++ t ∧ t ≠ [] := by
      rcases hx with rfl | ⟨p', t, hp', h1, h2⟩
      · exact ⟨p, rfl, fun e => by rw [e] at hwp; simp at hwp⟩
      · rw [hp] at hp'
        injection hp' with hp'
        exact ⟨t, by rw [hp']; exact h1, h2⟩
    cases t with
    | nil => exact absurd rfl hte
    | cons b t =>
      have hS : ps.flatten.take (a + 1) = (ps.take i).flatten ++ (x ++ [b]) := by
        have e1 : ps.flatten = (ps.take i).flatten ++ (x ++ [b]) ++ (t ++ (ps.drop (i + 1)).flatten) := by
          rw [hfl, hdrop, List.flatten_cons, hpx]
          simp
        rw [e1]
        refine List.take_left' ?_
        rw [List.length_append, List.length_append, hal]
        simp [bnd]
        omega
      by_cases htn : t = []
      · subst htn
        refine ⟨i + 1, [], hlt, ?_, ?_, .inl rfl⟩
        · rw [hS, List.take_add_one, hp, hpx]; simp
        · rw [bnd_next hp, hpx, hal]; simp; omega
      · exact ⟨i, x ++ [b], hle, hS, by rw [hal]; simp; omega, .inr ⟨p, t, hp, by rw [hpx]; simp, htn⟩⟩
/-- between two positions -/
theorem Pos.mid (hw : ∀ p ∈ ps, Wp p) (P : Pos ps a i h) (Q : Pos ps e i' h') (hae : a ≤ e) : h ++ (ps.flatten.take e).drop a = ((ps.take i').drop i).flatten ++ h' ∧ i ≤ i' := by
  have hle : i ≤ i' := by
    apply Classical.byContradiction
    intro c
    have hlt : i' < ps.length := by have := P.le; omega
    have h1 := bnd_le (ps := ps) (i := i' + 1) (j := i) (by omega)
    have h2 := P.al
    have h3 := Q.al
    have h4 := bnd_lt hw hlt
    have hp0 : ps[i']? = some ps[i'] := List.getElem?_eq_getElem hlt
    rcases Q.x with rfl | ⟨p, t, hp, hpx, ht⟩
    · simp at h3
      omega
    · rw [bnd_next hp, hpx, List.length_append] at h1
      have : 0 < t.length := List.length_pos_iff.2 ht
      omega
  refine ⟨?_, hle⟩
  obtain ⟨D, hD⟩ : ∃ D, (ps.flatten.take e).drop a = D := ⟨_, rfl⟩
  have e1 : ps.flatten.take e = ps.flatten.take a ++ D := by
    have := List.take_append_drop a (ps.flatten.take e)
    rw [List.take_take, Nat.min_eq_left hae, hD] at this
    exact this.symm
  rw [P.t, Q.t] at e1
  have e2 : (ps.take i').flatten = (ps.take i).flatten ++ ((ps.take i').drop i).flatten := by
    have := flat_split (ps := ps.take i') i
    rwa [List.take_take, Nat.min_eq_left hle] at this
  rw [e2, List.append_assoc, List.append_assoc] at e1
  rw [hD]
  exact (List.append_cancel_left e1).symm

/-- f is the pointer of the field from a to e -/
def Fst (ps : List (List Byte)) (a e f : Nat) : Prop :=
  (f = 2047 ∧ ∀ q, q < ps.length → ¬ (a ≤ bnd ps q ∧ bnd ps q < e)) ∨
  (∃ q, q < ps.length ∧ f = bnd ps q - a ∧ a ≤ bnd ps q ∧ bnd ps q < e ∧ ∀ q', q' < q → ¬ (a ≤ bnd ps q' ∧ bnd ps q' < e))
theorem bnd_inj (hw : ∀ p ∈ ps, Wp p) (hi : i < ps.length) (hij : i < j) : bnd ps i + 7 ≤ bnd ps j := by
  have h1 := bnd_lt hw hi
  have h2 := bnd_le (ps := ps) (i := i + 1) (j := j) (by omega)
  omega
/-- at a boundary -/
theorem Fst.zero (hw : ∀ p ∈ ps, Wp p) (P : Pos ps a i []) (hae : a < e) (he : e ≤ ps.flatten.length) (F : Fst ps a e f) : f = 0 ∧ i < ps.length := by
  have hal := P.al
  simp at hal
  have hlt : i < ps.length := by
    apply Classical.byContradiction
    intro c
    rw [bnd_all (by omega)] at hal
    omega
  refine ⟨?_, hlt⟩
  rcases F with ⟨_, h1⟩ | ⟨q, hq, rfl, h2, h3, h4⟩
  · exact absurd ⟨by omega, by omega⟩ (h1 i hlt)
  · have : ¬ i < q := fun c => h4 i c ⟨by omega, by omega⟩
    have : ¬ q < i := fun c => by have := bnd_inj hw hq c; omega
    have : q = i := by omega
    subst this
    omega
/-- within packet i -/
theorem Fst.some_ (P : Pos ps a i h) (hh : h ≠ []) (F : Fst ps a e f) :
    a < bnd ps (i + 1) ∧ i < ps.length ∧ ((i + 1 < ps.length ∧ bnd ps (i + 1) < e ∧ f = bnd ps (i + 1) - a) ∨ (f = 2047 ∧ (i + 1 = ps.length ∨ e ≤ bnd ps (i + 1)))) := by
  have hal := P.al
  rcases P.x with rfl | ⟨p, t, hp, hpx, ht⟩
  · exact absurd rfl hh
  have hlt := (List.getElem?_eq_some_iff.1 hp).1
  have h0 : 0 < h.length := List.length_pos_iff.2 hh
  have ht0 : 0 < t.length := List.length_pos_iff.2 ht
  have hn := bnd_next hp
  rw [hpx, List.length_append] at hn
  refine ⟨by omega, hlt, ?_⟩
  have hbelow : ∀ q, q ≤ i → bnd ps q < a := fun q hq => by have := bnd_le (ps := ps) hq; omega
  rcases F with ⟨rfl, h1⟩ | ⟨q, hq, rfl, h2, h3, h4⟩
  · refine .inr ⟨rfl, ?_⟩
    by_cases hi : i + 1 < ps.length
    · exact .inr (by have := h1 (i + 1) hi; omega)
    · exact .inl (by omega)
  · have hqi : i < q := by
      apply Classical.byContradiction
      intro c
      have := hbelow q (by omega)
      omega
    have hle := bnd_le (ps := ps) (i := i + 1) (j := q) (by omega)
    refine .inl ⟨by omega, by omega, ?_⟩
    have : ¬ i + 1 < q := fun c => h4 (i + 1) c ⟨by omega, by omega⟩
    have : q = i + 1 := by omega
    rw [this]

/-- the rest that is kept: the bytes of the packet, if all of them have arrived -/
def kp (gd : Bool) (x : List Byte) : List Byte := if gd then x else []
/-- whether the rest behind the field is good -/
def gdn (gd : Bool) (i i' : Nat) (x : List Byte) : Bool := if i' = i ∧ x ≠ [] then gd else true
/-- what is handed back begins at packet .. -/
def fro (gd : Bool) (i : Nat) (x : List Byte) : Nat := if gd = true ∨ x = [] then i else i + 1

theorem seg_succ (hii : i < i') (hi : i' ≤ ps.length) (hp : ps[i]? = some p) : (ps.take i').drop i = p :: (ps.take i').drop (i + 1) := by
  have h1 : i < (ps.take i').length := by rw [List.length_take]; omega
  rw [List.drop_eq_getElem_cons h1]
  congr 1
  rw [List.getElem_take]
  have := List.getElem?_eq_some_iff.1 hp
  obtain ⟨_, h⟩ := this
  exact h
theorem seg_mem {q : List Byte} (hq : q ∈ (ps.take i').drop i) : q ∈ ps := List.mem_of_mem_take (List.mem_of_mem_drop hq)

/-- a field that arrives: in step, or not -/
theorem step (hw : ∀ p ∈ ps, Wp p) (P : Pos ps a i h) (Q : Pos ps e i' h') (hae : a < e) (he : e ≤ ps.flatten.length) (F : Fst ps a e f) (hsz : e - a ≤ 2046) (gd : Bool) :
    prs (stm (kp gd h) (f : Int) ((ps.flatten.take e).drop a)) = (((ps.take i').drop (fro gd i h)).filter ni, kp (gdn gd i i' h) h') := by
  obtain ⟨hm, hle⟩ := Pos.mid hw P Q (by omega)
  obtain ⟨D, hD⟩ : ∃ D, (ps.flatten.take e).drop a = D := ⟨_, rfl⟩
  rw [hD] at hm ⊢
  have hDl : D.length = e - a := by rw [← hD, List.length_drop, List.length_take]; omega
  have hseg : ∀ k, ∀ q ∈ (ps.take i').drop k, Wp q := fun k q hq => hw q (seg_mem hq)
  have hpart : prs h' = ([], h') := by
    rcases Q.x with rfl | ⟨p, t, hp, hpx, ht⟩
    · exact prs_few (by simp)
    · exact prs_part (hw p (List.mem_of_getElem? hp)) hpx ht
  have hwhole : prs (h ++ D) = (((ps.take i').drop i).filter ni, h') := by
    rw [hm, prs_list (hseg i), hpart, List.append_nil]
  by_cases hh : h = []
  · subst hh
    obtain ⟨rfl, hlt⟩ := F.zero hw P hae he
    have e1 : kp gd ([] : List Byte) = [] := by unfold kp; split <;> rfl
    have e2 : fro gd i [] = i := by unfold fro; rw [if_pos (.inr rfl)]
    have e3 : gdn gd i i' [] = true := by unfold gdn; rw [if_neg (fun c => c.2 rfl)]
    rw [e1, e2, e3]
    have : stm [] ((0 : Nat) : Int) D = D := by
      unfold stm
      rw [if_neg (fun c => c.1 rfl), if_neg (by omega)]
      rfl
    rw [this]
    exact hwhole
  · obtain ⟨h1, hlt, h2⟩ := F.some_ P hh
    obtain ⟨p, hp⟩ : ∃ p, ps[i]? = some p := ⟨_, List.getElem?_eq_getElem hlt⟩
    have hwp := hw p (List.mem_of_getElem? hp)
    obtain ⟨t, hpx, ht⟩ : ∃ t, p = h ++ t ∧ t ≠ [] := by
      rcases P.x with r | ⟨p', t, hp', q1, q2⟩
      · exact absurd r hh
      · rw [hp] at hp'; injection hp' with hp'; exact ⟨t, by rw [hp']; exact q1, q2⟩
    have hn := bnd_next hp
    have hal := P.al
    have htl : h.length + t.length = p.length := by rw [hpx, List.length_append]
    have ht0 : 0 < t.length := List.length_pos_iff.2 ht
    have hbi : bnd ps (i + 1) = a + t.length := by omega
    -- is packet i whole at e?
    have hcase : (i' = i ∧ e < bnd ps (i + 1)) ∨ (i < i' ∧ bnd ps (i + 1) ≤ e) := by
      have hQ := Q.al
      rcases Nat.lt_or_ge i i' with c | c
      · right
        have := bnd_le (ps := ps) (i := i + 1) (j := i') c
        exact ⟨c, by omega⟩
      · left
        have hii : i' = i := by omega
        refine ⟨hii, ?_⟩
        subst hii
        rcases Q.x with rfl | ⟨p', t', hp', q1, q2⟩
        · simp at hQ
          have : 0 < h.length := List.length_pos_iff.2 hh
          omega
        · rw [hp] at hp'; injection hp' with hp'
          have : 0 < t'.length := List.length_pos_iff.2 q2
          have := congrArg List.length q1
          rw [← hp', List.length_append] at this
          omega
    cases gd with
    | true =>
      have e1 : kp true h = h := rfl
      have e2 : fro true i h = i := by unfold fro; rw [if_pos (.inl rfl)]
      have e3 : gdn true i i' h = true := by unfold gdn; split <;> rfl
      rw [e1, e2, e3]
      have hft : fts h (f : Int) D = true := by
        have hfit : 6 ≤ (h ++ D).length → siE (h ++ D) = 0 ∧ tot (h ++ D) = p.length := fun h6 => by
          rcases hcase with ⟨rfl, c⟩ | ⟨c, _⟩
          · -- a part of p
            have hx : h ++ D = h' := by
              rw [hm]
              have : (ps.take i').drop i' = [] := List.drop_eq_nil_of_le (by rw [List.length_take]; omega)
              rw [this]; rfl
            rcases Q.x with rfl | ⟨p', t', hp', q1, q2⟩
            · rw [hx] at h6; simp at h6
            · rw [hp] at hp'; injection hp' with hp'
              subst hp'
              obtain ⟨s1, s2⟩ := si_front (r := h ++ D) (d := t') h6
              rw [hx, ← q1] at s1 s2
              rw [hx, ← s1, ← s2]
              exact ⟨hwp.e, hwp.n⟩
          · rw [hm, seg_succ c Q.le hp, List.flatten_cons, List.append_assoc]
            have h7 := hwp.seven
            obtain ⟨s1, s2⟩ := si_front (r := p) (d := ((ps.take i').drop (i + 1)).flatten ++ h') (by omega)
            rw [s1, s2]
            exact ⟨hwp.e, hwp.n⟩
        have hlen : (h ++ D).length = h.length + (e - a) := by rw [List.length_append, hDl]
        unfold fts
        by_cases h6 : (h ++ D).length < 6
        · rw [if_pos ((siE_three).2 h6)]
          have h7 := hwp.seven
          rcases h2 with ⟨_, q2, _⟩ | ⟨rfl, _⟩
          · omega
          · rfl
        · obtain ⟨s1, s2⟩ := hfit (by omega)
          rw [if_neg (by rw [s1]; decide), if_neg (by rw [s1]; simp), s2]
          rcases h2 with ⟨_, q2, q3⟩ | ⟨rfl, q2⟩
          · rw [if_neg (by omega), q3]
            simp only [decide_eq_true_eq]
            omega
          · rw [if_pos]
            · rfl
            · rcases q2 with q2 | q2
              · have := bnd_all (ps := ps) (i := i + 1) (by omega)
                omega
              · omega
      rw [show stm h (f : Int) D = h ++ D by unfold stm; rw [if_pos ⟨hh, hft⟩]]
      exact hwhole
    | false =>
      have e1 : kp false h = [] := rfl
      have e2 : fro false i h = i + 1 := by unfold fro; rw [if_neg (by rintro (c | c); cases c; exact hh c)]
      rw [e1, e2]
      rcases hcase with ⟨rfl, c⟩ | ⟨c, c2⟩
      · have hf2 : f = 2047 := by rcases h2 with ⟨_, q, _⟩ | ⟨q, _⟩; omega; exact q
        subst hf2
        have : stm [] ((2047 : Nat) : Int) D = [] := by unfold stm; rw [if_neg (fun c => c.1 rfl), if_pos (show ((2047 : Nat) : Int) = 2047 from rfl)]
        rw [this, prs_few (l := []) (by simp)]
        have e4 : (ps.take i').drop (i' + 1) = [] := List.drop_eq_nil_of_le (by rw [List.length_take]; omega)
        have e5 : gdn false i' i' h = false := by unfold gdn; rw [if_pos ⟨rfl, hh⟩]
        rw [e4, e5]
        rfl
      · have e5 : gdn false i i' h = true := by unfold gdn; rw [if_neg (by omega)]
        rw [e5]
        have hD2 : D = t ++ (((ps.take i').drop (i + 1)).flatten ++ h') := by
          have := hm
          rw [seg_succ c Q.le hp, List.flatten_cons, List.append_assoc, hpx, List.append_assoc] at this
          exact List.append_cancel_left this
        rcases h2 with ⟨q1, q2, q3⟩ | ⟨rfl, q2⟩
        · have hf3 : f = t.length := by omega
          have : stm [] (f : Int) D = ((ps.take i').drop (i + 1)).flatten ++ h' := by
            unfold stm
            rw [if_neg (fun c => c.1 rfl), if_neg (by omega), hD2, hf3]
            exact List.drop_left
          rw [this, prs_list (hseg (i + 1)), hpart, List.append_nil]
          rfl
        · have hee : e = bnd ps (i + 1) := by
            rcases q2 with q2 | q2
            · have := bnd_all (ps := ps) (i := i + 1) (by omega); omega
            · omega
          have hnil : ((ps.take i').drop (i + 1)).flatten ++ h' = [] := by
            have := congrArg List.length hD2
            rw [List.length_append, hDl] at this
            exact List.eq_nil_of_length_eq_zero (by omega)
          have hh' : h' = [] := (List.append_eq_nil_iff.1 hnil).2
          have hs : (ps.take i').drop (i + 1) = [] := by
            apply Classical.byContradiction
            intro hc
            obtain ⟨q, hq⟩ := List.exists_mem_of_ne_nil _ hc
            have h7 := (hseg (i + 1) q hq).seven
            have h0 := (List.append_eq_nil_iff.1 hnil).1
            have := List.flatten_eq_nil_iff.1 h0 q hq
            rw [this] at h7
            simp at h7
          have : stm [] ((2047 : Nat) : Int) D = [] := by unfold stm; rw [if_neg (fun c => c.1 rfl), if_pos (show ((2047 : Nat) : Int) = 2047 from rfl)]
          rw [this, prs_few (l := []) (by simp), hs, hh']
          rfl
end
end Go.Proofs.Ytcmonalnhdodmaa.Unp
