/-
  The queue that a list of priorities fills, item i with priority l[i]: plain mathematics, no dump.
-/
import Derived.Test.YtnnjmlpanbbanaaQueMath
namespace Go.Proofs.Ytnnjmlpanbbanaa.Rng.Que

def stk (l : List Int) : Nat → List R
  | 0 => []
  | k + 1 => ins (l.getD k 0, (k : Int)) (stk l k)

theorem stk_length (l : List Int) : ∀ k, (stk l k).length = k
  | 0 => rfl
  | k + 1 => by rw [stk, ins_length, stk_length l k]
theorem stk_mem {l : List Int} {y : R} : ∀ {k : Nat}, y ∈ stk l k ↔ ∃ i, i < k ∧ y = (l.getD i 0, (i : Int))
  | 0 => by simp [stk]
  | k + 1 => by
    rw [stk, ins_mem, stk_mem (k := k)]
    constructor
    · rintro (rfl | ⟨i, hi, rfl⟩)
      · exact ⟨k, by omega, rfl⟩
      · exact ⟨i, by omega, rfl⟩
    · rintro ⟨i, hi, rfl⟩
      rcases Nat.lt_or_ge i k with h | h
      · exact .inr ⟨i, h, rfl⟩
      · obtain rfl : i = k := by omega
        exact .inl rfl
theorem stk_has {l : List Int} {k i : Nat} (hi : i < k) : hasI (i : Int) (stk l k) = true := hasI_iff.2 ⟨_, stk_mem.2 ⟨i, hi, rfl⟩, rfl⟩
theorem stk_not {l : List Int} {k : Nat} {i : Int} (hi : i < 0 ∨ (k : Int) ≤ i) : hasI i (stk l k) = false := hasI_false.2 fun y hy e => by
  obtain ⟨j, hj, rfl⟩ := stk_mem.1 hy
  simp at e; omega
theorem stk_lex (l : List Int) : ∀ k, Lex (stk l k)
  | 0 => by simp [stk, Lex]
  | k + 1 => by
    rw [stk]
    refine ins_lex (stk_lex l k) fun y hy => ?_
    obtain ⟨j, hj, rfl⟩ := stk_mem.1 hy
    simp; omega
theorem stk_nod (l : List Int) : ∀ k, Nod (stk l k)
  | 0 => by simp [stk, Nod]
  | k + 1 => by rw [stk]; exact ins_nod (stk_nod l k) (stk_not (.inr (by simp)))

/-- a push of the next item -/
theorem push_next {l : List Int} {k cap : Nat} {p : Int} (hp : l.getD k 0 = p) (h : k < cap) : pushE cap (p, (k : Int)) (stk l k) = 0 ∧ pushed cap (p, (k : Int)) (stk l k) = stk l (k + 1) := by
  subst hp
  have h1 : hasI (k : Int) (stk l k) = false := stk_not (.inr (by simp))
  have h2 : ¬ cap ≤ (stk l k).length := by rw [stk_length]; omega
  constructor
  · simp only [pushE, h1]; simp [h2]
  · simp only [pushed, h1]; simp [h2, stk]
/-- a push into the full queue -/
theorem push_over {l : List Int} {k cap : Nat} {p : Int} (h : cap ≤ k) : pushE cap (p, (k : Int)) (stk l cap) = 7 ∧ pushed cap (p, (k : Int)) (stk l cap) = stk l cap := by
  have h1 : hasI (k : Int) (stk l cap) = false := stk_not (.inr (by omega))
  have h2 : cap ≤ (stk l cap).length := by rw [stk_length]; omega
  constructor
  · simp only [pushE, h1]; simp [h2]
  · simp only [pushed, h1]; simp [h2]

theorem stk_at {l : List Int} {n k : Nat} (hk : k < n) : ∃ j, j < n ∧ (stk l n)[k]? = some (l.getD j 0, (j : Int)) := by
  have h1 : k < (stk l n).length := by rw [stk_length]; exact hk
  obtain ⟨j, hj, he⟩ := stk_mem.1 (List.getElem_mem h1)
  exact ⟨j, hj, by rw [List.getElem?_eq_getElem h1, he]⟩
theorem stk_asc {l : List Int} {n k : Nat} {a b : R} (ha : (stk l n)[k]? = some a) (hb : (stk l n)[k + 1]? = some b) : a.1 < b.1 ∨ (a.1 = b.1 ∧ a.2 < b.2) := by
  have h := stk_lex l n
  obtain ⟨h1, rfl⟩ := List.getElem?_eq_some_iff.1 ha
  obtain ⟨h2, rfl⟩ := List.getElem?_eq_some_iff.1 hb
  exact List.pairwise_iff_getElem.1 h k (k + 1) h1 h2 (by omega)
theorem drop_at {α : Type} {L : List α} {k : Nat} {a : α} (h : L[k]? = some a) : L.drop k = a :: L.drop (k + 1) := by
  obtain ⟨h1, rfl⟩ := List.getElem?_eq_some_iff.1 h
  exact List.drop_eq_getElem_cons h1
/-! ### out and in again -/
theorem filter_step (f : Int → Bool) {L : List Int} {k : Nat} {y : Int} (h : L[k]? = some y) : (L.take (k + 1)).filter f = (L.take k).filter f ++ (if f y then [y] else []) := by
  rw [List.take_add_one, h, List.filter_append]
  cases hf : f y <;> simp [hf]
theorem again_eq {l : List Int} {n x : Nat} {p : Int} :
    (itm (ins (p, (x : Int)) (rm (x : Int) (stk l n)))).filter (fun a => a != (x : Int)) = (itm (stk l n)).filter (fun a => a != (x : Int)) := by
  have h := stk_nod l n
  have h1 : hasI (x : Int) (rm (x : Int) (stk l n)) = false := rm_nod_has h
  rw [itm_ins (x := (p, (x : Int))) h1, itm_rm h]
theorem again_at {l : List Int} {n x k : Nat} {y : R} (hx : x < n) (h : (ins (l.getD x 0, (x : Int)) (rm (x : Int) (stk l n)))[k]? = some y) : ∃ j, j < n ∧ y = (l.getD j 0, (j : Int)) := by
  rcases ins_mem.1 (List.mem_of_getElem? h) with rfl | h
  · exact ⟨x, hx, rfl⟩
  · exact stk_mem.1 (rm_mem_of h)
theorem again_behind {l : List Int} {n x k : Nat} {y : R} (h : (ins (l.getD x 0, (x : Int)) (rm (x : Int) (stk l n)))[k]? = some y)
    (hb : (x : Int) ∈ (itm (ins (l.getD x 0, (x : Int)) (rm (x : Int) (stk l n)))).take k) : l.getD x 0 < y.1 := by
  obtain ⟨i, hi, he⟩ := List.mem_iff_getElem.1 hb
  have hi2 := hi
  rw [List.length_take, itm_length] at hi2
  have hik : i < k := by omega
  rw [List.getElem_take] at he
  have hil : i < (ins (l.getD x 0, (x : Int)) (rm (x : Int) (stk l n))).length := by omega
  have h2 : (ins (l.getD x 0, (x : Int)) (rm (x : Int) (stk l n)))[i]? = some _ := List.getElem?_eq_getElem hil
  refine ins_behind (x := (l.getD x 0, (x : Int))) (rm_srt (stk_lex l n).srt) (rm_nod_has (stk_nod l n)) h2 ?_ hik h
  have h3 := itm_at h2
  rw [List.getElem?_eq_getElem (by rw [itm_length]; exact hil), he] at h3
  exact (Option.some.inj h3).symm
theorem again_in {l : List Int} {n x : Nat} {p : Int} : (x : Int) ∈ itm (ins (p, (x : Int)) (rm (x : Int) (stk l n))) := by
  unfold itm
  exact List.mem_map.2 ⟨_, ins_mem.2 (.inl rfl), rfl⟩
end Go.Proofs.Ytnnjmlpanbbanaa.Rng.Que
