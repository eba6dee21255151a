/-
  The laws of layer 19: where packets begin.
-/
import Derived.Test.YtjjjlgaidklokaaLaw19e
namespace Go.Proofs.Ytjjjlgaidklokaa.Pkr
open Go.RowKit
open Pac (siE siN b8 tot)

theorem b8_app {l r : List Byte} {k : Nat} (h : k < l.length) : b8 (l ++ r) k = b8 l k := by
  unfold b8
  rw [List.getD_eq_getElem?_getD, List.getD_eq_getElem?_getD, List.getElem?_append_left h]
theorem si_pre {l r : List Byte} (h : 6 ≤ l.length) : siE (l ++ r) = siE l ∧ siN (l ++ r) = siN l := by
  have e0 := b8_app (r := r) (k := 0) (l := l) (by omega)
  have e4 := b8_app (r := r) (k := 4) (l := l) (by omega)
  have e5 := b8_app (r := r) (k := 5) (l := l) (by omega)
  have et : tot (l ++ r) = tot l := by unfold tot; rw [e4, e5]
  have hl : ¬ (l ++ r).length < 6 := by rw [List.length_append]; omega
  have hl2 : ¬ l.length < 6 := by omega
  unfold siE siN
  rw [if_neg hl, if_neg hl2, if_neg hl, if_neg hl2, e0, et]
  exact ⟨rfl, rfl⟩

theorem flat2 (a b : List (List Byte)) (y : List Byte) : (a ++ (b ++ [y])).flatten.length = a.flatten.length + (b.flatten.length + y.length) := by
  rw [List.flatten_append, List.flatten_append, List.length_append, List.length_append]
  congr 2
  simp
/-- of the packets ps, those in pre end at start, those in mid behind them at c and the bytes f that are left of the last -/
def BD (ps : List (List Byte)) (f : List Byte) (ls : List (List Byte)) (c start : Nat) : Prop :=
  ∃ pre mid, ps = pre ++ mid ++ ls ∧ start = pre.flatten.length ∧ c + f.length = (pre ++ mid).flatten.length ∧ (mid = [] ∨ ∃ mid' y, mid = mid' ++ [y] ∧ f.length < y.length)
theorem BD.start (ps : List (List Byte)) : BD ps [] ps 0 0 := ⟨[], [], by simp, rfl, rfl, .inl rfl⟩
section
variable {ps ls : List (List Byte)} {f : List Byte} {c start Z : Nat}
theorem BD.le (h : BD ps f ls c start) : start ≤ ps.flatten.length := by
  obtain ⟨pre, mid, h1, h2, _⟩ := h
  rw [h1, h2, List.append_assoc, List.flatten_append, List.length_append]; omega
/-- the next packet begins before c -/
theorem BD.size (h : BD ps f ls c start) (hp : ∀ x ∈ ps, Pkt x) (hs : start < c) {O rest t : List Byte} (hV : O ++ rest = ps.flatten ++ t) (hlo : start ≤ O.length) :
    ∃ X, 7 ≤ X ∧ X ≤ 4096 ∧ start + X ≤ c + f.length ∧ BD ps f ls c (start + X) ∧ ((O.length < start + 6 ∧ siE (O.drop start) = 3) ∨ (siE (O.drop start) = 0 ∧ siN (O.drop start) = X)) := by
  obtain ⟨pre, mid, h1, h2, h3, h4⟩ := h
  cases mid with
  | nil => rw [List.append_nil] at h3; omega
  | cons x mid2 =>
    have hx := hp x (by rw [h1]; simp)
    obtain ⟨_, _, _, w4, w5, w6, w7⟩ := hx.whole ((mid2 ++ ls).flatten ++ t)
    have hle : start + x.length ≤ c + f.length := by
      rw [h3, h2]; simp
    refine ⟨x.length, w6, w7, hle, ⟨pre ++ [x], mid2, by rw [h1]; simp, by rw [h2]; simp, by rw [h3]; simp, ?_⟩, ?_⟩
    · rcases h4 with h4 | ⟨mid', y, h5, h6⟩
      · cases h4
      · cases mid' with
        | nil => rw [List.nil_append] at h5; injection h5 with _ h5; exact .inl h5
        | cons z mid' => rw [List.cons_append] at h5; injection h5 with _ h5; exact .inr ⟨mid', y, h5, h6⟩
    · by_cases h6 : O.length < start + 6
      · exact .inl ⟨h6, (Pac.siE_short (by rw [List.length_drop]; omega)).1⟩
      · have hd : O.drop start ++ rest = x ++ ((mid2 ++ ls).flatten ++ t) := by
          have e1 : (O ++ rest).drop start = O.drop start ++ rest := List.drop_append_of_le_length hlo
          rw [← e1, hV, h1, h2]
          simp [List.append_assoc]
        obtain ⟨s1, s2⟩ := si_pre (l := O.drop start) (r := rest) (by rw [List.length_drop]; omega)
        rw [hd] at s1 s2
        exact .inr ⟨by rw [← s1]; exact w4, by rw [← s2]; exact w5⟩
/-- no packet that begins before c is left -/
theorem BD.stop (h : BD ps f ls c start) (hs : ¬ start < c) : start = c + f.length := by
  obtain ⟨pre, mid, h1, h2, h3, h4⟩ := h
  rcases h4 with rfl | ⟨mid', y, rfl, h5⟩
  · rw [List.append_nil] at h3; omega
  · rw [flat2] at h3
    generalize pre.flatten.length = a at h2 h3
    generalize mid'.flatten.length = b at h3
    omega
theorem BD.next (h : BD ps f ls c start) (ho : ¬ start < c ∨ Z ≤ f.length) (hZ : Z ≤ (f ++ ls.flatten).length) : BD ps (cut f ls Z).1 (cut f ls Z).2 (c + Z) start := by
  by_cases hf : Z ≤ f.length
  · rw [cut_le hf]
    obtain ⟨pre, mid, h1, h2, h3, h4⟩ := h
    refine ⟨pre, mid, h1, h2, by rw [← h3, List.length_drop]; omega, ?_⟩
    rcases h4 with h4 | ⟨mid', y, h5, h6⟩
    · exact .inl h4
    · exact .inr ⟨mid', y, h5, by rw [List.length_drop]; omega⟩
  · have hs : ¬ start < c := by rcases ho with h1 | h1; exact h1; exact absurd h1 hf
    have hst := h.stop hs
    obtain ⟨pre, mid, h1, h2, h3, h4⟩ := h
    have hmid : mid = [] := by
      rcases h4 with h4 | ⟨mid', y, rfl, h5⟩
      · exact h4
      · rw [flat2] at h3
        generalize pre.flatten.length = a at h2 h3
        generalize mid'.flatten.length = b at h3
        omega
    subst hmid
    obtain ⟨mid2, y, e1, e2, e3⟩ := cut_split ls f Z (by omega) hZ
    refine ⟨pre, mid2 ++ [y], ?_, h2, ?_, .inr ⟨mid2, y, rfl, e2⟩⟩
    · rw [h1, List.append_nil, List.append_assoc, ← e1]
    · rw [List.flatten_append, List.length_append, Nat.add_assoc, e3, ← Nat.add_assoc, h3, List.append_nil]
end
theorem nxP_rs {Z : Nat} {s : PS} (hr : s.rs = []) : nxP Z s = if Z ≤ s.fb.length then 2047 else s.fb.length := by unfold nxP; rw [hr]; simp
theorem nxS_cut {Z : Nat} {s : PS} (hr : s.rs = []) (h : Z ≤ s.wt.length) : (nxS Z s).fb = (cut s.fb s.ls Z).1 ∧ (nxS Z s).ls = (cut s.fb s.ls Z).2 := by
  have hA : nxA Z s = Z := by unfold nxA; rw [hr]; simp
  have e : ∀ t : PS, t.fb = s.fb → t.ls = s.ls → t.wt = s.wt := fun t h1 h2 => by unfold PS.wt; rw [h1, h2]
  unfold nxS
  rw [hA]
  show (cut s.fb s.ls (min Z (s.rest Z).wt.length)).1 = _ ∧ (cut s.fb s.ls (min Z (s.rest Z).wt.length)).2 = _
  rw [e (s.rest Z) rfl rfl, Nat.min_eq_left h]
  exact ⟨rfl, rfl⟩
end Go.Proofs.Ytjjjlgaidklokaa.Pkr
