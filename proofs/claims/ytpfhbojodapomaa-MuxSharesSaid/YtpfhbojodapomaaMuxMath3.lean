/-
  Plain mathematics of the reference's way to select a channel; no Go in sight.
-/
import Derived.Test.YtpfhbojodapomaaMuxMath2
namespace Go.Proofs.Ytpfhbojodapomaa.Mux

theorem min_comm3 (a b c : Int) : min a (min b c) = min (min a b) c := by omega
theorem mnp_le16 (rd : List Int) : ∀ L : List Ch, mnp rd L ≤ 16
  | [] => by simp [mnp]
  | x :: l => by
    have := mnp_le16 rd l
    unfold mnp
    split <;> omega
theorem mnp_snoc (rd : List Int) (x : Ch) : ∀ L : List Ch, mnp rd (L ++ [x]) = if x.id ∈ rd then min (mnp rd L) x.pr else mnp rd L
  | [] => by simp only [List.nil_append, mnp]; split <;> omega
  | y :: l => by
    simp only [List.cons_append, mnp, mnp_snoc rd x l]
    split <;> split <;> omega

/-- the first k channels with their credits raised where f picks them -/
def Lb (f : Ch → Bool) (k : Nat) (L : List Ch) : List Ch := (L.take k).map (bmp f) ++ L.drop k
section
variable {f : Ch → Bool} {L : List Ch} {k : Nat}
theorem Lb_len : (Lb f k L).length = L.length := by unfold Lb; simp; omega
theorem Lb_zero : Lb f 0 L = L := by simp [Lb]
theorem Lb_all : Lb f L.length L = L.map (bmp f) := by simp [Lb]
theorem Lb_next (hk : k < L.length) : Lb f (k + 1) L = (Lb f k L).set k (bmp f L[k]) := by
  have h1 : L.drop k = L[k] :: L.drop (k + 1) := List.drop_eq_getElem_cons hk
  have hl : ((L.take k).map (bmp f)).length = k := by simp; omega
  unfold Lb
  rw [take_at hk, h1, List.map_append, List.append_assoc]
  simp only [List.map_cons, List.map_nil, List.singleton_append]
  rw [List.set_append_right _ _ (by omega), hl, Nat.sub_self]
  rfl
theorem Lb_get {i : Nat} (hi : i < L.length) (hb : i < (Lb f k L).length) : (Lb f k L)[i] = if i < k then bmp f L[i] else L[i] := by
  have h : (Lb f k L)[i]? = some (if i < k then bmp f L[i] else L[i]) := by
    unfold Lb
    by_cases hik : i < k
    · rw [List.getElem?_append_left (by simp; omega), List.getElem?_map, List.getElem?_take, if_pos hik, List.getElem?_eq_getElem hi, if_pos hik]
      rfl
    · rw [List.getElem?_append_right (by simp; omega), List.getElem?_drop, if_neg hik]
      rw [show k + (i - (List.map (bmp f) (List.take k L)).length) = i by simp; omega, List.getElem?_eq_getElem hi]
  rw [List.getElem?_eq_getElem hb] at h
  exact Option.some.inj h
theorem Lb_same (hk : k < L.length) (hf : f L[k] = false) : Lb f (k + 1) L = Lb f k L := by
  rw [Lb_next hk]
  have hb : k < (Lb f k L).length := by rw [Lb_len]; exact hk
  have e : bmp f L[k] = (Lb f k L)[k] := by
    rw [Lb_get hk, if_neg (Nat.lt_irrefl k)]
    unfold bmp
    rw [hf]; rfl
  rw [e]
  apply List.ext_getElem (by simp)
  intro i h1 h2
  rw [List.getElem_set]
  split
  · next e => subst e; rfl
  · rfl
theorem wsf_take (hk : k < L.length) : wsf f (L.take (k + 1)) = wsf f (L.take k) + (if f L[k] then L[k].wt else 0) := by
  have key : ∀ (A : List Ch) (x : Ch), wsf f (A ++ [x]) = wsf f A + (if f x then x.wt else 0) := by
    intro A x
    induction A with
    | nil => simp [wsf]
    | cons y A ih => simp only [List.cons_append, wsf, ih]; omega
  rw [take_at hk, key]
theorem wsf_in {A : List Ch} (h : ∀ x ∈ A, x.ok) : 0 ≤ wsf f A ∧ wsf f A ≤ 100 * A.length := by
  induction A with
  | nil => simp [wsf]
  | cons x A ih =>
    have h1 := ih fun y hy => h y (by simp [hy])
    obtain ⟨_, _, _, _, h2, h3⟩ := h x (by simp)
    simp only [wsf, List.length_cons]
    split <;> omega

/-- b is the index of the one that is to be preferred among the first k, or -1 -/
def BI (f : Ch → Bool) (L : List Ch) (k : Nat) (b : Int) : Prop :=
  (b = -1 ∧ ∀ i, i < k → ∀ h : i < L.length, f L[i] = false) ∨ ∃ j : Nat, b = j ∧ j < k ∧ ∃ h : j < L.length, f L[j] = true ∧ ∀ i, i < k → ∀ h : i < L.length, f L[i] = true → pf L[j] L[i]
theorem BI.zero : BI f L 0 (-1) := .inl ⟨rfl, fun i h => by omega⟩
theorem BI.skip {b : Int} (h : BI f L k b) (hk : k < L.length) (hf : f L[k] = false) : BI f L (k + 1) b := by
  rcases h with ⟨rfl, h⟩ | ⟨j, rfl, hj, hl, hfj, h⟩
  · refine .inl ⟨rfl, fun i hi hil => ?_⟩
    by_cases e : i = k
    · subst e; exact hf
    · exact h i (by omega) hil
  · refine .inr ⟨j, rfl, by omega, hl, hfj, fun i hi hil hfi => ?_⟩
    by_cases e : i = k
    · subst e; rw [hf] at hfi; cases hfi
    · exact h i (by omega) hil hfi
theorem BI.first (h : BI f L k (-1)) (hk : k < L.length) (hf : f L[k] = true) : BI f L (k + 1) k := by
  rcases h with ⟨_, h⟩ | ⟨j, e, _⟩
  · refine .inr ⟨k, rfl, by omega, hk, hf, fun i hi hil hfi => ?_⟩
    by_cases e : i = k
    · subst e; exact .inr ⟨rfl, Int.le_refl _⟩
    · rw [h i (by omega) hil] at hfi; cases hfi
  · omega
theorem BI.better {j : Nat} (h : BI f L k j) (hk : k < L.length) (hj : j < L.length) (hf : f L[k] = true) (hp : L[j].cr + L[j].wt < L[k].cr + L[k].wt ∨ (L[k].cr + L[k].wt = L[j].cr + L[j].wt ∧ L[k].id < L[j].id)) : BI f L (k + 1) k := by
  rcases h with ⟨e, _⟩ | ⟨j', e, hj', hl, hfj, h⟩
  · omega
  · obtain rfl : j = j' := by omega
    refine .inr ⟨k, rfl, by omega, hk, hf, fun i hi hil hfi => ?_⟩
    by_cases e : i = k
    · subst e; exact .inr ⟨rfl, Int.le_refl _⟩
    · have := h i (by omega) hil hfi
      unfold pf at this ⊢
      omega
theorem BI.worse {j : Nat} (h : BI f L k j) (hk : k < L.length) (hj : j < L.length) (hp : ¬ (L[j].cr + L[j].wt < L[k].cr + L[k].wt ∨ (L[k].cr + L[k].wt = L[j].cr + L[j].wt ∧ L[k].id < L[j].id))) : BI f L (k + 1) j := by
  rcases h with ⟨e, _⟩ | ⟨j', e, hj', hl, hfj, h⟩
  · omega
  · obtain rfl : j = j' := by omega
    refine .inr ⟨j, rfl, by omega, hl, hfj, fun i hi hil hfi => ?_⟩
    by_cases e : i = k
    · subst e
      unfold pf
      omega
    · exact h i (by omega) hil hfi
theorem BI.at_ {b : Int} (h : BI f L k b) : b = -1 ∨ ∃ j : Nat, b = j ∧ j < k ∧ ∃ hj : j < L.length, f L[j] = true := by
  rcases h with ⟨rfl, _⟩ | ⟨j, rfl, hj, hl, hf, _⟩
  · exact .inl rfl
  · exact .inr ⟨j, rfl, hj, hl, hf⟩
end
theorem up_eq {rd : List Int} {L : List Ch} {p s : Int} {m : Nat} (g : Good L) (hml : m < L.length) (hel : el rd p L[m] = true) : (L.map (bmp (el rd p))).modify m (fin s) = L.map (up rd p L[m].id s) := by
  apply List.ext_getElem (by simp)
  intro i hi1 hi2
  have hi : i < L.length := by simpa using hi2
  rw [List.getElem_modify, List.getElem_map, List.getElem_map]
  unfold up bmp
  by_cases him : m = i
  · subst him
    rw [if_pos rfl, if_pos hel, if_pos hel, if_pos rfl]
    rfl
  · rw [if_neg him]
    by_cases he : el rd p L[i] = true
    · rw [if_pos he, if_pos he, if_neg]
      · rfl
      · intro e'
        have h7 : (ids L)[i]'(by simpa [ids] using hi) = (ids L)[m]'(by simpa [ids] using hml) := by simpa [ids] using e'
        have h8 := List.pairwise_iff_getElem.1 g.nod
        rcases Nat.lt_or_ge i m with h9 | h9
        · exact h8 i m _ _ h9 h7
        · exact h8 m i _ _ (by omega) h7.symm
    · rw [if_neg he, if_neg he]
theorem ref_none {rd : List Int} {L : List Ch} (g : Good L) (h : BI (el rd (mnp rd L)) L L.length (-1)) : Nx rd L none L := by
  refine .inl ⟨rfl, rfl, ?_⟩
  rcases mnp_at (rd := rd) g.ok with h1 | ⟨x, hx, h1, h2⟩
  · exact h1
  · rcases h with ⟨_, h⟩ | ⟨j, e, _⟩
    · obtain ⟨i, hi, rfl⟩ := List.getElem_of_mem hx
      have := h i hi hi
      rw [el_iff.2 ⟨h1, h2⟩] at this
      cases this
    · omega
theorem map_none {f : Ch → Bool} {L : List Ch} (h : BI f L L.length (-1)) : L.map (bmp f) = L := by
  rcases h with ⟨_, h⟩ | ⟨j, e, _⟩
  · apply List.ext_getElem (by simp)
    intro i h1 h2
    rw [List.getElem_map]
    unfold bmp
    rw [h i h2 h2]
    rfl
  · omega
theorem ref_some {rd : List Int} {L : List Ch} {j : Nat} (g : Good L) (h : BI (el rd (mnp rd L)) L L.length j) (hj : j < L.length) : Nx rd L (some L[j].id) ((L.map (bmp (el rd (mnp rd L)))).modify j (fin (ws rd (mnp rd L) L))) := by
  rcases h with ⟨e, _⟩ | ⟨j', e, hj', hl, hf, h⟩
  · omega
  · obtain rfl : j = j' := by omega
    rw [up_eq g hj hf]
    refine .inr ⟨mnp rd L, L[j], List.getElem_mem hj, hf, fun x hx hr => mnp_le hx hr, fun x hx he => ?_, rfl, rfl⟩
    obtain ⟨i, hi, rfl⟩ := List.getElem_of_mem hx
    exact h i hi hi he
end Go.Proofs.Ytpfhbojodapomaa.Mux
