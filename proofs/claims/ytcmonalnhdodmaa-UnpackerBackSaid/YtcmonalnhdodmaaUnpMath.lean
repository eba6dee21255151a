/-
  Plain mathematics of the unpacker: the packets at the front of some bytes (prs), what Take does; the reference's state beside it.
-/
import Derived.Test.YtcmonalnhdodmaaPacMath
namespace Go.Proofs.Ytcmonalnhdodmaa.Unp
open Pac

/-- the packet at the front is an idle one -/
def idl (l : List Byte) : Bool := decide ((256 * b8 l 0 + b8 l 1) % 2048 = 2047)
theorem tot_seven (l : List Byte) : 7 ≤ tot l := by unfold tot; omega
theorem siE_cases (l : List Byte) : siE l = 0 ∨ siE l = 3 ∨ siE l = 4 ∨ siE l = 6 := by
  unfold siE
  split
  · simp
  · split
    · simp
    · split <;> simp
theorem siE_three {l : List Byte} : siE l = 3 ↔ l.length < 6 := by
  refine ⟨fun h => ?_, fun h => (siE_short h).1⟩
  apply Classical.byContradiction
  intro c
  unfold siE at h
  rw [if_neg c] at h
  split at h
  · cases h
  · split at h <;> cases h

/-- the packets at the front (but the idle ones), and what is left -/
def prs (l : List Byte) : List (List Byte) × List Byte :=
  if l.length < 6 then ([], l)
  else if siE l ≠ 0 then ([], [])
  else if _h : l.length < tot l then ([], l)
  else ((if idl l then [] else [l.take (tot l)]) ++ (prs (l.drop (tot l))).1, (prs (l.drop (tot l))).2)
termination_by l.length
decreasing_by all_goals (rw [List.length_drop]; have := tot_seven l; omega)
theorem prs_few {l : List Byte} (h : l.length < 6) : prs l = ([], l) := by rw [prs, if_pos h]
theorem prs_bad {l : List Byte} (h : ¬ l.length < 6) (h2 : siE l ≠ 0) : prs l = ([], []) := by rw [prs, if_neg h, if_pos h2]
theorem prs_wait {l : List Byte} (h2 : siE l = 0) (h3 : l.length < tot l) : prs l = ([], l) := by
  rw [prs]
  split
  · rfl
  · rw [if_neg (show ¬ siE l ≠ 0 by simpa using h2)]
theorem prs_one {l : List Byte} (h2 : siE l = 0) (h3 : ¬ l.length < tot l) :
    prs l = ((if idl l then [] else [l.take (tot l)]) ++ (prs (l.drop (tot l))).1, (prs (l.drop (tot l))).2) := by
  rw [prs, if_neg (siE_zero h2).1, if_neg (show ¬ siE l ≠ 0 by simpa using h2)]
  exact if_neg h3

/-- what the rest of an unpacker is: fewer bytes than the packet that they begin -/
def Rok (r : List Byte) : Prop := r.length < 6 ∨ (siE r = 0 ∧ r.length < tot r)
theorem Rok.nil_ : Rok [] := .inl (by simp)
theorem Rok.len {r : List Byte} (h : Rok r) : r.length ≤ 4095 := by
  rcases h with h | ⟨h1, h2⟩
  · omega
  · have := siE_zero h1; omega
theorem prs_ok (l : List Byte) : Rok (prs l).2 := by
  induction hn : l.length using Nat.strongRecOn generalizing l with
  | ind n ih =>
    by_cases h : l.length < 6
    · rw [prs_few h]; exact .inl h
    · by_cases h2 : siE l = 0
      · by_cases h3 : l.length < tot l
        · rw [prs_wait h2 h3]; exact .inr ⟨h2, h3⟩
        · rw [prs_one h2 h3]
          exact ih _ (by rw [List.length_drop]; have := tot_seven l; omega) _ rfl
      · rw [prs_bad h h2]; exact .nil_
theorem prs_len (l : List Byte) : (prs l).1.length ≤ l.length := by
  induction hn : l.length using Nat.strongRecOn generalizing l with
  | ind n ih =>
    by_cases h : l.length < 6
    · rw [prs_few h]; simp
    · by_cases h2 : siE l = 0
      · by_cases h3 : l.length < tot l
        · rw [prs_wait h2 h3]; simp
        · have h7 := tot_seven l
          have := ih _ (by rw [List.length_drop]; omega) (l.drop (tot l)) rfl
          rw [List.length_drop] at this
          rw [prs_one h2 h3, List.length_append]
          split <;> simp only [List.length_nil, List.length_cons] <;> omega
      · rw [prs_bad h h2]; simp
/-- one step more of the loop that removes packets -/
theorem prs_step {L l : List Byte} {O : List (List Byte)} (h : prs L = (O ++ (prs l).1, (prs l).2)) (h2 : siE l = 0) (h3 : ¬ l.length < tot l) :
    prs L = (O ++ (if idl l then [] else [l.take (tot l)]) ++ (prs (l.drop (tot l))).1, (prs (l.drop (tot l))).2) := by
  rw [h, prs_one h2 h3, List.append_assoc]

/-- what one returned packet is -/
def Few (ls : List (List Byte)) : Prop := ∀ x ∈ ls, x.length ≤ 4096

/-! ### a header may lie in two pieces -/
theorem b8_app {r d : List Byte} {k : Nat} (hk : k < 6) : b8 (r.take 6 ++ d.take 6) k = b8 (r ++ d) k := by
  unfold b8
  rw [List.getD_eq_getElem?_getD, List.getD_eq_getElem?_getD]
  by_cases h : r.length ≤ 6
  · rw [List.take_of_length_le h, List.getElem?_append, List.getElem?_append]
    split
    · rfl
    · rw [List.getElem?_take, if_pos (by omega)]
  · rw [List.getElem?_append_left (by rw [List.length_take]; omega), List.getElem?_append_left (by omega), List.getElem?_take, if_pos hk]
theorem tot_app {r d : List Byte} : tot (r.take 6 ++ d.take 6) = tot (r ++ d) := by unfold tot; rw [b8_app (by omega), b8_app (by omega)]
theorem si_app {r d : List Byte} : siE (r.take 6 ++ d.take 6) = siE (r ++ d) ∧ siN (r.take 6 ++ d.take 6) = siN (r ++ d) := by
  have hl : (r.take 6 ++ d.take 6).length < 6 ↔ (r ++ d).length < 6 := by
    rw [List.length_append, List.length_append, List.length_take, List.length_take]; omega
  unfold siE siN
  rw [tot_app, b8_app (by omega)]
  by_cases h : (r ++ d).length < 6
  · rw [if_pos h, if_pos (hl.2 h), if_pos h, if_pos (hl.2 h)]; exact ⟨rfl, rfl⟩
  · rw [if_neg h, if_neg (fun c => h (hl.1 c)), if_neg h, if_neg (fun c => h (hl.1 c))]; exact ⟨rfl, rfl⟩
theorem b8_front {r d : List Byte} {k : Nat} (hk : k < r.length) : b8 (r ++ d) k = b8 r k := by
  unfold b8
  rw [List.getD_eq_getElem?_getD, List.getD_eq_getElem?_getD, List.getElem?_append_left hk]
theorem si_front {r d : List Byte} (h : 6 ≤ r.length) : siE (r ++ d) = siE r ∧ tot (r ++ d) = tot r := by
  have ht : tot (r ++ d) = tot r := by unfold tot; rw [b8_front (by omega), b8_front (by omega)]
  refine ⟨?_, ht⟩
  unfold siE
  rw [ht, b8_front (by omega), List.length_append, if_neg (show ¬ r.length + d.length < 6 by omega), if_neg (show ¬ r.length < 6 by omega)]
theorem Rok.short {r d : List Byte} (h : Rok r) : r.length < tot (r ++ d) := by
  rcases h with h | ⟨h, h3⟩
  · have := tot_seven (r ++ d); omega
  · rw [(si_front (by have := (siE_zero h).1; omega)).2]; exact h3

/-! ### idle packets -/
theorem b8_take {l : List Byte} {k n : Nat} (hk : k < n) : b8 (l.take n) k = b8 l k := by
  unfold b8
  rw [List.getD_eq_getElem?_getD, List.getD_eq_getElem?_getD, List.getElem?_take, if_pos hk]
theorem idl_take {l : List Byte} {n : Nat} (hn : 7 ≤ n) : idl (l.take n) = idl l := by unfold idl; rw [b8_take (by omega), b8_take (by omega)]
/-- what a whole packet is found to be -/
theorem idle_is {l : List Byte} (h : siE l = 0) (h2 : tot l ≤ l.length) : (!decide (deE (l.take (tot l)) = 0) || decide ((deP (l.take (tot l))).ap = 2047)) = idl l := by
  have h7 := tot_seven l
  obtain ⟨s1, s2, s3⟩ := siE_zero h
  obtain ⟨X, hX⟩ : ∃ X, l.take (tot l) = X := ⟨_, rfl⟩
  have hl : X.length = tot l := by rw [← hX, List.length_take]; omega
  have ht : tot X = tot l := by rw [← hX]; unfold tot; rw [b8_take (by omega), b8_take (by omega)]
  have h0 : b8 X 0 = b8 l 0 := by rw [← hX, b8_take (by omega)]
  have hi : idl X = idl l := by rw [← hX, idl_take h7]
  have hs : siE X = 0 := (siE_good (by omega) (by rw [h0]; exact s2) (by rw [ht]; exact s3)).1
  rw [hX, ← hi]
  cases hok : (rd X).ok with
  | true =>
    obtain ⟨e1, e2, _⟩ := de_good hs (by omega) hok
    rw [e1, e2]
    unfold idl rd
    simp
    omega
  | false =>
    obtain ⟨e1, _, _⟩ := de_form hs (by omega) hok
    rw [e1]
    have : idl X = true := by
      apply Classical.byContradiction
      intro c
      have hf : (rd X).Fits := by
        have b2 := b8_lt X 2
        have b3 := b8_lt X 3
        unfold Pk.Fits rd
        simp only [List.length_take, List.length_drop]
        omega
      have ha : (rd X).ap ≠ 2047 := by
        unfold idl at c
        simp only [decide_eq_true_eq] at c
        show (((256 * b8 X 0 + b8 X 1) % 2048 : Nat) : Int) ≠ 2047
        omega
      rw [Pk.ok_free hf ha] at hok
      cases hok
    rw [this]
    rfl

/-! ### the unpacker -/
structure US where
  bg : Bool
  ex : Nat
  lo : Nat
  rs : List Byte
structure US.Ok (s : US) : Prop where
  r : Rok s.rs
  e : s.ex < 256
/-- the distance to the count c -/
def dst (s : US) (c : Nat) : Nat := if s.bg then (c + 256 - s.ex) % 256 else 0
theorem dst_lt (s : US) (c : Nat) : dst s c < 256 := by unfold dst; split <;> omega
def flw (s : US) (c : Nat) : US := ⟨true, (c + 1) % 256, s.lo + dst s c, if dst s c = 0 then s.rs else []⟩
/-- are the counts and the pointer such that Take works? -/
def Arg (c f : Int) (d : List Byte) : Prop := 0 ≤ c ∧ c ≤ 255 ∧ ((0 ≤ f ∧ f < (d.length : Int)) ∨ f = 2047 ∨ f = 2046)
instance (c f : Int) (d : List Byte) : Decidable (Arg c f d) := by unfold Arg; infer_instance
/-- does f fit to the rest r (that is not empty)? -/
def fts (r : List Byte) (f : Int) (d : List Byte) : Bool :=
  if siE (r ++ d) = 3 then decide (f = 2047) else if siE (r ++ d) ≠ 0 then false else if (r ++ d).length ≤ tot (r ++ d) then decide (f = 2047) else decide (f = ((tot (r ++ d) - r.length : Nat) : Int))
/-- the bytes that are looked at -/
def stm (r : List Byte) (f : Int) (d : List Byte) : List Byte := if r ≠ [] ∧ fts r f d = true then r ++ d else if f = 2047 then [] else d.drop f.toNat
/-- what Take does -/
def tkS (s : US) (c f : Int) (d : List Byte) : US :=
  if Arg c f d then (if f = 2046 then flw s c.toNat else { flw s c.toNat with rs := (prs (stm (flw s c.toNat).rs f d)).2 }) else s
def tkO (s : US) (c f : Int) (d : List Byte) : List (List Byte) :=
  if Arg c f d then (if f = 2046 then [] else (prs (stm (flw s c.toNat).rs f d)).1) else []
theorem flw_ok {s : US} (h : s.Ok) (c : Nat) : (flw s c).Ok := by
  unfold flw
  refine ⟨?_, by simp only; omega⟩
  simp only
  split
  · exact h.r
  · exact .nil_
theorem tkS_ok {s : US} (h : s.Ok) (c f : Int) (d : List Byte) : (tkS s c f d).Ok := by
  unfold tkS
  split
  · split
    · exact flw_ok h _
    · exact ⟨prs_ok _, (flw_ok h _).e⟩
  · exact h
theorem tkS_lo (s : US) (c f : Int) (d : List Byte) : (tkS s c f d).lo ≤ s.lo + 255 := by
  have := dst_lt s c.toNat
  unfold tkS flw
  split
  · split <;> simp only <;> omega
  · omega
def US0 : US := ⟨false, 0, 0, []⟩
theorem US0_ok : US0.Ok := ⟨.nil_, by decide⟩
end Go.Proofs.Ytcmonalnhdodmaa.Unp
