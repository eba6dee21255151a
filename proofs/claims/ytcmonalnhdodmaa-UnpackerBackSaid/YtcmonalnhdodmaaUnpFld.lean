/-
  Plain mathematics: the pointer as it is looked for from the last boundary on; packets that are wrapped; what is kept of packets; frames that arrive.
-/
import Derived.Test.YtcmonalnhdodmaaUnpBack
namespace Go.Proofs.Ytcmonalnhdodmaa.Unp
open Pac

section
variable {ps : List (List Byte)} {a e f j : Nat}
/-- the pointer, as far as the boundaries from j on are seen -/
def FstJ (ps : List (List Byte)) (a e f j : Nat) : Prop :=
  (f = 2047 ∧ ∀ q, j ≤ q → q < ps.length → ¬ (a ≤ bnd ps q ∧ bnd ps q < e)) ∨
  (∃ q, j ≤ q ∧ q < ps.length ∧ f = bnd ps q - a ∧ a ≤ bnd ps q ∧ bnd ps q < e ∧ ∀ q', j ≤ q' → q' < q → ¬ (a ≤ bnd ps q' ∧ bnd ps q' < e))
theorem FstJ.start : FstJ ps a e 2047 ps.length := .inl ⟨rfl, fun q h1 h2 => by omega⟩
theorem FstJ.yes (hj : j < ps.length) (h1 : a ≤ bnd ps j) (h2 : bnd ps j < e) : FstJ ps a e (bnd ps j - a) j := .inr ⟨j, Nat.le_refl _, hj, rfl, h1, h2, fun q' h3 h4 => by omega⟩
theorem FstJ.no (h : FstJ ps a e f (j + 1)) (hn : ¬ (a ≤ bnd ps j ∧ bnd ps j < e)) : FstJ ps a e f j := by
  rcases h with ⟨rfl, h1⟩ | ⟨q, h1, h2, rfl, h3, h4, h5⟩
  · refine .inl ⟨rfl, fun q h2 h3 => ?_⟩
    by_cases hq : q = j
    · rw [hq]; exact hn
    · exact h1 q (by omega) h3
  · refine .inr ⟨q, by omega, h2, rfl, h3, h4, fun q' h6 h7 => ?_⟩
    by_cases hq : q' = j
    · rw [hq]; exact hn
    · exact h5 q' (by omega) h7
theorem FstJ.done (h : FstJ ps a e f 0) : Fst ps a e f := by
  rcases h with ⟨rfl, h1⟩ | ⟨q, h1, h2, rfl, h3, h4, h5⟩
  · exact .inl ⟨rfl, fun q h2 => h1 q (Nat.zero_le _) h2⟩
  · exact .inr ⟨q, h2, rfl, h3, h4, fun q' h6 => h5 q' (Nat.zero_le _) h6⟩
theorem FstJ.le (h : FstJ ps a e f j) (hsz : e - a ≤ 2046) : f ≤ 2047 := by
  rcases h with ⟨rfl, _⟩ | ⟨q, _, _, rfl, h3, h4, _⟩ <;> omega
end

/-! ### the end of the stream -/
section
variable {ps : List (List Byte)} {i : Nat} {x : List Byte}
theorem Pos.last (hw : ∀ p ∈ ps, Wp p) (P : Pos ps ps.flatten.length i x) : i = ps.length ∧ x = [] := by
  have hal := P.al
  have hx : x = [] := by
    rcases P.x with h | ⟨p, t, hp, hpx, ht⟩
    · exact h
    · have h1 := bnd_next hp
      have h2 := bnd_top (ps := ps) (i + 1)
      have : 0 < t.length := List.length_pos_iff.2 ht
      rw [hpx, List.length_append] at h1
      omega
  subst hx
  refine ⟨?_, rfl⟩
  apply Classical.byContradiction
  intro c
  have hlt : i < ps.length := by have := P.le; omega
  have h1 := bnd_lt hw hlt
  have h2 := bnd_top (ps := ps) (i + 1)
  simp only [List.length_nil] at hal
  omega
end

section
variable {ps : List (List Byte)} {a e i i' f : Nat} {x x' : List Byte}
/-- a field that arrives in step -/
theorem step_in (hw : ∀ p ∈ ps, Wp p) (P : Pos ps a i x) (Q : Pos ps e i' x') (hae : a < e) (he : e ≤ ps.flatten.length) (F : Fst ps a e f) (hsz : e - a ≤ 2046) :
    prs (stm x (f : Int) ((ps.flatten.drop a).take (e - a))) = (((ps.take i').drop i).filter ni, x') ∧ (ps.take i').filter ni = (ps.take i).filter ni ++ ((ps.take i').drop i).filter ni := by
  have h := step hw P Q hae he F hsz true
  have e1 : kp true x = x := rfl
  have e2 : fro true i x = i := by unfold fro; rw [if_pos (.inl rfl)]
  have e3 : gdn true i i' x = true := by unfold gdn; split <;> rfl
  rw [e1, e2, e3, List.drop_take] at h
  refine ⟨h, ?_⟩
  have hle := (Pos.mid hw P Q (by omega)).2
  rw [← List.filter_append]
  congr 1
  have := List.take_append_drop i (ps.take i')
  rw [List.take_take, Nat.min_eq_left hle] at this
  exact this.symm
theorem Fst.lt (F : Fst ps a e f) (hsz : e - a ≤ 2046) : (f < e - a ∨ f = 2047) ∧ f ≠ 2046 := by
  rcases F with ⟨rfl, _⟩ | ⟨q, _, rfl, h3, h4, _⟩ <;> omega
end

/-! ### an unpacker that has got every field so far -/
/-- it expects count k -/
def Exp (s : US) (k : Nat) : Prop := (k = 0 ∧ s = US0) ∨ (s.bg = true ∧ s.ex = k % 256)
theorem Exp.dst {s : US} {k : Nat} (h : Exp s k) : dst s (k % 256) = 0 := by
  unfold Unp.dst
  rcases h with ⟨_, rfl⟩ | ⟨h1, h2⟩
  · rfl
  · rw [if_pos h1, h2]; omega
theorem Exp.take {s : US} {k f : Nat} {d : List Byte} (h : Exp s k) (hA : f < d.length ∨ f = 2047) (hf : f ≠ 2046) (hlo : s.lo = 0) :
    Exp (tkS s ((k % 256 : Nat) : Int) (f : Int) d) (k + 1) ∧ (tkS s ((k % 256 : Nat) : Int) (f : Int) d).lo = 0 ∧ (tkS s ((k % 256 : Nat) : Int) (f : Int) d).rs = (prs (stm s.rs f d)).2 ∧ tkO s ((k % 256 : Nat) : Int) (f : Int) d = (prs (stm s.rs f d)).1 := by
  have hd := h.dst
  have hArg : Arg ((k % 256 : Nat) : Int) (f : Int) d := ⟨by omega, by omega, by omega⟩
  have e1 : flw s (k % 256) = ⟨true, (k + 1) % 256, 0, s.rs⟩ := by
    unfold flw
    rw [hd, if_pos rfl, hlo]
    congr 1
    omega
  have e2 : (((k % 256 : Nat) : Int)).toNat = k % 256 := by omega
  unfold tkS tkO
  rw [if_pos hArg, if_neg (by omega), if_pos hArg, if_neg (by omega), e2, e1]
  exact ⟨.inr ⟨rfl, rfl⟩, rfl, rfl, rfl⟩
end Go.Proofs.Ytcmonalnhdodmaa.Unp
