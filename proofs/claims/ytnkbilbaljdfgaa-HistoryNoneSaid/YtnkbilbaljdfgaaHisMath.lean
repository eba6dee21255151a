/-
  Plain mathematics of layer 9: what Add keeps, drops and counts; the newest values of a list. No dump is imported.
-/
import Derived.Lib.Hide
import Derived.IntWalk
namespace Go.Proofs.Ytnkbilbaljdfgaa.His

/-- the capacity that New makes of a number -/
def hcap (n : Int) : Nat := (min (max n 0) 256).toNat
/-- what is kept behind Add of v -/
def kept (cap : Nat) (v : Int) (L : List Int) : List Int := if L.length < cap then L ++ [v] else (L ++ [v]).tail
/-- what Add hands back -/
def outV (cap : Nat) (v : Int) (L : List Int) : Int := if L.length < cap then 0 else (L ++ [v]).headD 0
def outB (cap : Nat) (L : List Int) : Bool := !decide (L.length < cap)
/-- how many are dropped behind Add: an int's sum -/
def lost (cap : Nat) (L : List Int) (D : Int) : Int := if L.length < cap then D else RowKit.wrap64 (D + 1)

theorem hcap_le (n : Int) : hcap n ≤ 256 := by unfold hcap; omega
theorem kept_le {cap : Nat} {L : List Int} (v : Int) (h : L.length ≤ cap) : (kept cap v L).length ≤ cap := by
  unfold kept
  split
  · simp; omega
  · simp; omega
theorem lost_some {cap : Nat} {L : List Int} {D : Int} (h : ¬ L.length < cap) (hD : -1000000 ≤ D ∧ D ≤ 1000000) : lost cap L D = D + 1 := by
  rw [lost, if_neg h, IntWalk.wrap64_in _ (by omega)]
theorem outB_lt {cap : Nat} {L : List Int} (h : L.length < cap) : outB cap L = false := by simp [outB, h]
theorem outB_ge {cap : Nat} {L : List Int} (h : ¬ L.length < cap) : outB cap L = true := by simp [outB]; omega

/-! ### a play from nothing: the newest of what was added -/
/-- the newest of the first k of l -/
def newest (cap : Nat) (l : List Int) (k : Nat) : List Int := (l.take k).drop (k - cap)
theorem newest_zero (cap : Nat) (l : List Int) : newest cap l 0 = [] := by simp [newest]
theorem newest_length {cap k : Nat} {l : List Int} (h : k ≤ l.length) : (newest cap l k).length = min k cap := by
  simp [newest]; omega
theorem newest_all (cap : Nat) (l : List Int) : newest cap l l.length = l.drop (l.length - cap) := by simp [newest]
theorem take_succ_at {l : List Int} {k : Nat} (h : k < l.length) : l.take (k + 1) = l.take k ++ [l[k]] := by
  rw [List.take_add_one, List.getElem?_eq_getElem h]; rfl
theorem newest_app {cap k : Nat} {l : List Int} (h : k < l.length) : newest cap l k ++ [l[k]] = (l.take (k + 1)).drop (k - cap) := by
  rw [take_succ_at h, List.drop_append_of_le_length (by simp; omega)]; rfl
theorem newest_next {cap k : Nat} {l : List Int} (h : k < l.length) : kept cap l[k] (newest cap l k) = newest cap l (k + 1) := by
  unfold kept
  rw [newest_length (Nat.le_of_lt h), newest_app h, newest]
  by_cases hc : k < cap
  · rw [if_pos (by omega)]
    congr 1; omega
  · rw [if_neg (by omega), List.tail_drop]
    congr 1; omega
theorem lost_next {cap k : Nat} {l : List Int} (h : k < l.length) (hk : k ≤ 1000000) : lost cap (newest cap l k) ((k - cap : Nat) : Int) = ((k + 1 - cap : Nat) : Int) := by
  have hn := newest_length (cap := cap) (Nat.le_of_lt h)
  by_cases hc : k < cap
  · rw [lost, if_pos (by omega)]; omega
  · rw [lost_some (by omega) (by omega)]; omega
/-- what is dropped with the next one -/
theorem out_next {cap k : Nat} {l : List Int} (h : k < l.length) : (outB cap (newest cap l k) = false ∧ l.take (k + 1 - cap) = l.take (k - cap)) ∨
    (outB cap (newest cap l k) = true ∧ l.take (k + 1 - cap) = l.take (k - cap) ++ [outV cap l[k] (newest cap l k)]) := by
  by_cases hc : k < cap
  · refine .inl ⟨outB_lt (by rw [newest_length (Nat.le_of_lt h)]; omega), ?_⟩
    rw [show k + 1 - cap = 0 by omega, show k - cap = 0 by omega]
  · have hge : ¬ (newest cap l k).length < cap := by rw [newest_length (Nat.le_of_lt h)]; omega
    refine .inr ⟨outB_ge hge, ?_⟩
    have hk : k - cap < l.length := by omega
    rw [show k + 1 - cap = k - cap + 1 by omega, take_succ_at hk]
    congr 1
    unfold outV
    rw [if_neg hge, newest_app h]
    have hk2 : k - cap < (l.take (k + 1)).length := by simp; omega
    rw [List.drop_eq_getElem_cons hk2]
    simp
end Go.Proofs.Ytnkbilbaljdfgaa.His
