/-
  Plain mathematics of the law LinkDelivers: what is in transit at each time, what has come. No dump is imported.
-/
import Derived.Test.YtllhdgllgoanbaaLnkMath
namespace Go.Proofs.Ytllhdgllgoanbaa.Lnk
open Go.RowKit
open Rng (R)

/-- the indexes from i to j that pass -/
def gl (ok : Nat → Bool) (i j : Nat) : List Nat := (List.range' i (j - i)).filter ok
section
variable {ok : Nat → Bool} {i j m : Nat}
theorem gl_nil (h : j ≤ i) : gl ok i j = [] := by unfold gl; rw [Nat.sub_eq_zero_of_le h]; rfl
theorem gl_app (h1 : i ≤ m) (h2 : m ≤ j) : gl ok i j = gl ok i m ++ gl ok m j := by
  unfold gl
  rw [← List.filter_append]
  have := @List.range'_append_1 i (m - i) (j - m)
  rw [show i + (m - i) = m by omega, show m - i + (j - m) = j - i by omega] at this
  rw [this]
theorem gl_one (i : Nat) : gl ok i (i + 1) = if ok i = true then [i] else [] := by
  unfold gl
  rw [show i + 1 - i = 1 by omega]
  show List.filter ok [i] = _
  by_cases h : ok i = true
  · simp [h]
  · simp [h]
theorem gl_mem {s : Nat} (h : s ∈ gl ok i j) : i ≤ s ∧ s < j := by
  unfold gl at h
  have := List.mem_range'_1.1 (List.mem_filter.1 h).1
  omega
theorem gl_len (i j : Nat) : (gl ok i j).length ≤ j - i := by
  unfold gl
  have := List.length_filter_le ok (List.range' i (j - i))
  rwa [List.length_range'] at this
end
theorem rn_app {t : Int} {a b : List (Int × List Byte)} (ha : ∀ x ∈ a, x.1 ≤ t) (hb : ∀ x ∈ b, t < x.1) : rn t (a ++ b) = a.length := by
  refine rn_at (fun x hx => ha x (by rwa [List.take_left] at hx)) ?_ (by simp)
  cases b with
  | nil => left; simp
  | cons y b => exact .inr ⟨y, by simp, hb y (by simp)⟩

section
variable (D : Nat) (f0 f1 : Int) (ms : List Int) (l : List (List Byte))
/-- the law's configuration -/
def dC : Cf := ⟨(D : Int), [(f0, f1)], ms, []⟩
def dOk (s : Nat) : Bool := !gone (dC D f0 f1 ms) (s : Int) s
def dL (s : Nat) : List Byte := l.getD s []
def dF (s : Nat) : Int × List Byte := ((s : Int) + (D : Int), dL l s)
/-- how many are behind us at the time t -/
def dM (t : Nat) : Nat := min (t - D) l.length
def dW (i j : Nat) : List (Int × List Byte) := (gl (dOk D f0 f1 ms) i j).map (dF D l)
def dB (i j : Nat) : List (List Byte) := (gl (dOk D f0 f1 ms) i j).map (dL l)
/-- the link's state ahead of the time t -/
def dS (t : Nat) : LS := ⟨((t - 1 : Nat) : Int), min t l.length, dW D f0 f1 ms l (dM D l t) (min t l.length)⟩
def dS1 (t : Nat) : LS := ⟨(t : Int), t + 1, dW D f0 f1 ms l (dM D l t) (t + 1)⟩
variable {D f0 f1 ms l}
theorem dB_nil {i j : Nat} (h : j ≤ i) : dB D f0 f1 ms l i j = [] := by unfold dB; rw [gl_nil h]; rfl
theorem dB_app {i m j : Nat} (h1 : i ≤ m) (h2 : m ≤ j) : dB D f0 f1 ms l i j = dB D f0 f1 ms l i m ++ dB D f0 f1 ms l m j := by unfold dB; rw [gl_app h1 h2, List.map_append]
theorem dW_app {i m j : Nat} (h1 : i ≤ m) (h2 : m ≤ j) : dW D f0 f1 ms l i j = dW D f0 f1 ms l i m ++ dW D f0 f1 ms l m j := by unfold dW; rw [gl_app h1 h2, List.map_append]
theorem dB_one (i : Nat) : dB D f0 f1 ms l i (i + 1) = if dOk D f0 f1 ms i = true then [dL l i] else [] := by
  unfold dB
  rw [gl_one]
  split <;> rfl
theorem dW_one (i : Nat) : dW D f0 f1 ms l i (i + 1) = if dOk D f0 f1 ms i = true then [dF D l i] else [] := by
  unfold dW
  rw [gl_one]
  split <;> rfl
theorem dS_0 : dS D f0 f1 ms l 0 = s0 := by
  unfold dS dM
  rw [Nat.zero_min, show dW D f0 f1 ms l (min (0 - D) l.length) 0 = [] from by unfold dW; rw [gl_nil (Nat.zero_le _)]; rfl]
  rfl
theorem adv_t {t : Nat} (h : t ≤ 1000000) : adv ((t - 1 : Nat) : Int) (t : Int) = (t : Int) := by
  unfold adv
  split
  · rfl
  · omega
theorem adv_same {t : Nat} : adv (t : Int) (t : Int) = (t : Int) := by
  unfold adv
  rw [if_neg (by omega)]
theorem dmg_nil (idx : Int) (b : List Byte) : dmg [] idx b = b := dmg_no [] idx b (fun _ h => nomatch h)
theorem dS_snd {t : Nat} (ht : t < l.length) (hm : t ≤ 1000000) : snd (dC D f0 f1 ms) (t : Int) (dL l t) (dS D f0 f1 ms l t) = dS1 D f0 f1 ms l t := by
  unfold snd dS dS1
  simp only
  rw [adv_t hm, show min t l.length = t by omega]
  have h1 : dM D l t ≤ t := by unfold dM; omega
  rw [dW_app h1 (Nat.le_succ t), dW_one]
  congr 1
  unfold dOk
  cases hg : gone (dC D f0 f1 ms) (t : Int) t with
  | true => simp
  | false =>
    simp only [Bool.not_false, if_pos]
    rw [if_neg (by decide)]
    rw [show (dC D f0 f1 ms).fl = [] from rfl, dmg_nil]
    rfl
/-- what Receive makes of it -/
theorem d_rcv {t : Nat} {s : LS} (h1 : adv s.tm (t : Int) = (t : Int)) (h2 : s.sn = min (t + 1) l.length) (h3 : s.wt = dW D f0 f1 ms l (dM D l t) (min (t + 1) l.length)) :
    rcS (t : Int) s = dS D f0 f1 ms l (t + 1) ∧ rcO (t : Int) s = dB D f0 f1 ms l (dM D l t) (dM D l (t + 1)) := by
  have hA : dM D l t ≤ dM D l (t + 1) := by unfold dM; omega
  have hB : dM D l (t + 1) ≤ min (t + 1) l.length := by unfold dM; omega
  have hsp := dW_app (D := D) (f0 := f0) (f1 := f1) (ms := ms) (l := l) hA hB
  have hrn : rn (t : Int) s.wt = (dW D f0 f1 ms l (dM D l t) (dM D l (t + 1))).length := by
    rw [h3, hsp]
    refine rn_app (fun x hx => ?_) (fun x hx => ?_)
    · obtain ⟨y, hy, rfl⟩ := List.mem_map.1 hx
      have := (gl_mem hy).2
      unfold dM at this
      show (y : Int) + (D : Int) ≤ _
      omega
    · obtain ⟨y, hy, rfl⟩ := List.mem_map.1 hx
      have h5 := gl_mem hy
      have h6 := h5.1
      unfold dM at h6
      show (t : Int) < (y : Int) + (D : Int)
      omega
  unfold rcS rcO
  rw [h1, hrn, h2, h3, hsp, List.drop_left, List.take_left]
  refine ⟨rfl, ?_⟩
  unfold dW dB
  rw [List.map_map]
  rfl
theorem dS1_rcv {t : Nat} (ht : t < l.length) : rcS (t : Int) (dS1 D f0 f1 ms l t) = dS D f0 f1 ms l (t + 1) ∧ rcO (t : Int) (dS1 D f0 f1 ms l t) = dB D f0 f1 ms l (dM D l t) (dM D l (t + 1)) :=
  d_rcv adv_same (by unfold dS1; simp only; omega) (by unfold dS1; simp only; rw [show min (t + 1) l.length = t + 1 by omega])
theorem dS_rcv {t : Nat} (ht : l.length ≤ t) (hm : t ≤ 1000000) : rcS (t : Int) (dS D f0 f1 ms l t) = dS D f0 f1 ms l (t + 1) ∧ rcO (t : Int) (dS D f0 f1 ms l t) = dB D f0 f1 ms l (dM D l t) (dM D l (t + 1)) :=
  d_rcv (adv_t hm) (by unfold dS; simp only; omega) (by unfold dS; simp only; rw [show min (t + 1) l.length = l.length by omega, show min t l.length = l.length by omega])
/-- at most one comes at a time: the one that was sent D ago -/
theorem d_out (t : Nat) : dB D f0 f1 ms l (dM D l t) (dM D l (t + 1)) = [] ∨ (dB D f0 f1 ms l (dM D l t) (dM D l (t + 1)) = [dL l (t - D)] ∧ D ≤ t ∧ t - D < l.length) := by
  rcases Nat.lt_or_ge (dM D l t) (dM D l (t + 1)) with h | h
  · have h1 : dM D l (t + 1) = dM D l t + 1 := by unfold dM at *; omega
    have h2 : dM D l t = t - D := by unfold dM at *; omega
    rw [h1, dB_one, h2]
    split
    · exact .inr ⟨rfl, by unfold dM at *; omega, by unfold dM at *; omega⟩
    · exact .inl rfl
  · exact .inl (dB_nil h)
/-- what has come and what was sent -/
theorem d_got (t : Nat) : dB D f0 f1 ms l 0 (dM D l (t + 1)) = dB D f0 f1 ms l 0 (dM D l t) ++ dB D f0 f1 ms l (dM D l t) (dM D l (t + 1)) := dB_app (Nat.zero_le _) (by unfold dM; omega)
theorem d_want (t : Nat) : dB D f0 f1 ms l 0 (t + 1) = dB D f0 f1 ms l 0 t ++ if dOk D f0 f1 ms t = true then [dL l t] else [] := by rw [dB_app (Nat.zero_le t) (Nat.le_succ t), dB_one]
theorem dB_len (i j : Nat) : (dB D f0 f1 ms l i j).length ≤ j - i := by unfold dB; rw [List.length_map]; exact gl_len i j
theorem d_end : dM D l (l.length + D + 1) = l.length ∧ (dS D f0 f1 ms l (l.length + D + 1)).wt = [] := by
  have h : dM D l (l.length + D + 1) = l.length := by unfold dM; omega
  refine ⟨h, ?_⟩
  unfold dS
  simp only
  rw [h, show min (l.length + D + 1) l.length = l.length by omega]
  unfold dW
  rw [gl_nil (Nat.le_refl _)]
  rfl
end
end Go.Proofs.Ytllhdgllgoanbaa.Lnk
