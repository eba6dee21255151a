/-
  Frame synchronization as mathematics: the Finder as a machine that takes byte after byte; the reference's look at a whole stream. No dump is imported.
-/
import Derived.Test.YtahpogmbkkpmdaaScrMath
namespace Go.Proofs.Ytahpogmbkkpmdaa.Mar
open Scr (app app_len app_app)

/-- the marker -/
def pat : List Byte := [26#8, 207#8, 252#8, 29#8]
theorem pat_len : pat.length = 4 := rfl
/-- a Finder's state: how many bytes match, or 4 in a frame; the frame so far; how many are skipped -/
structure FS where
  m : Nat
  fr : List Byte
  sk : Nat
/-- how many match behind a byte x -/
def nx (m : Nat) (x : Byte) : Nat := if pat[m]? = some x then m + 1 else if x = 26#8 then 1 else 0
/-- how many a byte x makes skipped -/
def sx (m : Nat) (x : Byte) : Nat := if pat[m]? = some x then 0 else if x = 26#8 then m else m + 1
theorem nx_sx (m : Nat) (x : Byte) : nx m x + sx m x = m + 1 := by
  unfold nx sx
  split
  · omega
  · split <;> omega
theorem nx_le (m : Nat) (x : Byte) (h : m < 4) : nx m x ≤ 4 := by
  unfold nx
  split
  · omega
  · split <;> omega
def step (N : Nat) (s : FS) (x : Byte) : FS :=
  if s.m < 4 then ⟨nx s.m x, s.fr, s.sk + sx s.m x⟩
  else if s.fr.length + 1 = N then ⟨0, [], s.sk⟩ else ⟨4, s.fr ++ [x], s.sk⟩
def ost (N : Nat) (s : FS) (x : Byte) : List (List Byte) :=
  if s.m < 4 then [] else if s.fr.length + 1 = N then [app (s.fr ++ [x])] else []
def run (N : Nat) : FS → List Byte → FS
  | s, [] => s
  | s, x :: l => run N (step N s x) l
def out (N : Nat) : FS → List Byte → List (List Byte)
  | _, [] => []
  | s, x :: l => ost N s x ++ out N (step N s x) l
section
variable {N : Nat} {s : FS}
theorem run_append (a b : List Byte) : run N s (a ++ b) = run N (run N s a) b := by
  induction a generalizing s with
  | nil => rfl
  | cons x a ih => exact ih
theorem out_append (a b : List Byte) : out N s (a ++ b) = out N s a ++ out N (run N s a) b := by
  induction a generalizing s with
  | nil => rfl
  | cons x a ih =>
    show ost N s x ++ out N (step N s x) (a ++ b) = (ost N s x ++ out N (step N s x) a) ++ _
    rw [ih, List.append_assoc]; rfl
theorem run_snoc (a : List Byte) (x : Byte) : run N s (a ++ [x]) = step N (run N s a) x := run_append a [x]
theorem out_snoc (a : List Byte) (x : Byte) : out N s (a ++ [x]) = out N s a ++ ost N (run N s a) x := by
  rw [out_append]
  show _ ++ (ost N (run N s a) x ++ []) = _
  rw [List.append_nil]
theorem run_take {l : List Byte} {k : Nat} (h : k < l.length) : run N s (l.take (k + 1)) = step N (run N s (l.take k)) l[k] := by
  rw [List.take_add_one, List.getElem?_eq_getElem h]; exact run_snoc _ _
theorem out_take {l : List Byte} {k : Nat} (h : k < l.length) : out N s (l.take (k + 1)) = out N s (l.take k) ++ ost N (run N s (l.take k)) l[k] := by
  rw [List.take_add_one, List.getElem?_eq_getElem h]; exact out_snoc _ _
/-- what every state of a Finder fulfils -/
structure Wf (N : Nat) (s : FS) : Prop where
  m : s.m ≤ 4
  fr : s.m < 4 → s.fr = []
  l : s.fr.length < N
theorem Wf.step (h : Wf N s) (hN : 0 < N) (x : Byte) : Wf N (step N s x) := by
  unfold Mar.step
  split
  · rename_i h4
    exact ⟨nx_le _ _ h4, fun _ => h.fr h4, h.l⟩
  · split
    · exact ⟨by simp, fun _ => rfl, by simpa using hN⟩
    · exact ⟨Nat.le_refl _, fun h4 => absurd h4 (by simp), by have := h.l; simp only [List.length_append, List.length_cons, List.length_nil]; omega⟩
theorem Wf.run (hN : 0 < N) : ∀ (l : List Byte) {s : FS}, Wf N s → Wf N (run N s l)
  | [], _, h => h
  | x :: l, _, h => Wf.run hN l (h.step hN x)
theorem wf0 (hN : 0 < N) (k : Nat) : Wf N ⟨0, [], k⟩ := ⟨by simp, fun _ => rfl, by simpa using hN⟩
/-- what is skipped, and what matches, grow with the stream -/
theorem step_sk (s : FS) (x : Byte) (h : s.m ≤ 4) : (step N s x).sk + (step N s x).m ≤ s.sk + s.m + 1 := by
  unfold step
  split
  · have := nx_sx s.m x; simp only; omega
  · split <;> simp only <;> omega
theorem run_sk (hN : 0 < N) : ∀ (l : List Byte) {s : FS}, Wf N s → (run N s l).sk + (run N s l).m ≤ s.sk + s.m + l.length
  | [], _, _ => Nat.le_refl _
  | x :: l, s, h => by
    have h1 := run_sk hN l (h.step hN x)
    have h2 := step_sk (N := N) s x h.m
    rw [List.length_cons]
    show (run N (step N s x) l).sk + (run N (step N s x) l).m ≤ _
    omega
theorem out_len (l : List Byte) {s : FS} : (out N s l).length ≤ l.length := by
  induction l generalizing s with
  | nil => simp [out]
  | cons x l ih =>
    show (ost N s x ++ out N (step N s x) l).length ≤ _
    have h1 : (ost N s x).length ≤ 1 := by unfold ost; split; simp; split <;> simp
    have h2 := ih (s := step N s x)
    rw [List.length_append, List.length_cons]; omega
end

/-! ### the marker and a frame -/
theorem run_pat (N m k : Nat) (h : m < 4) : run N ⟨m, [], k⟩ pat = ⟨4, [], k + m⟩ ∧ out N ⟨m, [], k⟩ pat = [] := by
  have : m = 0 ∨ m = 1 ∨ m = 2 ∨ m = 3 := by omega
  rcases this with rfl | rfl | rfl | rfl <;> simp [run, out, pat, step, ost, nx, sx]
theorem run_frame (N k : Nat) : ∀ (t fr : List Byte), fr.length + t.length < N → run N ⟨4, fr, k⟩ t = ⟨4, fr ++ t, k⟩ ∧ out N ⟨4, fr, k⟩ t = []
  | [], fr, _ => by simp [run, out]
  | x :: t, fr, h => by
    rw [List.length_cons] at h
    have hs : step N ⟨4, fr, k⟩ x = ⟨4, fr ++ [x], k⟩ := by unfold step; rw [if_neg (by simp), if_neg (by simp only; omega)]
    have ho : ost N ⟨4, fr, k⟩ x = [] := by unfold ost; rw [if_neg (by simp), if_neg (by simp only; omega)]
    obtain ⟨h1, h2⟩ := run_frame N k t (fr ++ [x]) (by simp only [List.length_append, List.length_cons, List.length_nil]; omega)
    refine ⟨?_, ?_⟩
    · show run N (step N ⟨4, fr, k⟩ x) t = _
      rw [hs, h1, List.append_assoc]; rfl
    · show ost N ⟨4, fr, k⟩ x ++ out N (step N ⟨4, fr, k⟩ x) t = _
      rw [hs, ho, h2]; rfl
theorem run_whole {N : Nat} (k : Nat) {t : List Byte} (ht : t.length = N) (hN : 0 < N) : run N ⟨4, [], k⟩ t = ⟨0, [], k⟩ ∧ out N ⟨4, [], k⟩ t = [app t] := by
  have hk : N - 1 < t.length := by omega
  have e : t = t.take (N - 1) ++ [t[N - 1]] := by
    have h1 : t.take (N - 1 + 1) = t.take (N - 1) ++ [t[N - 1]] := by rw [List.take_add_one, List.getElem?_eq_getElem hk]; rfl
    rw [← h1, List.take_of_length_le (by omega)]
  have hl : (t.take (N - 1)).length + 1 = N := by rw [List.length_take]; omega
  obtain ⟨h1, h2⟩ := run_frame N k (t.take (N - 1)) [] (by rw [List.length_take, List.length_nil]; omega)
  rw [List.nil_append] at h1
  refine ⟨?_, ?_⟩
  · conv => lhs; rw [e, run_snoc, h1]
    unfold step
    rw [if_neg (by simp), if_pos (by exact hl)]
  · conv => lhs; rw [e, out_snoc, h1, h2]
    unfold ost
    rw [if_neg (by simp), if_pos (by exact hl), ← e]; rfl

/-! ### what may begin a marker -/
def tr (r : List Byte) : Nat := if r.take 3 = [252#8, 207#8, 26#8] then 3 else if r.take 2 = [207#8, 26#8] then 2 else if r.take 1 = [26#8] then 1 else 0
/-- the longest sequence at the end of l that is the beginning of a marker -/
def tl (l : List Byte) : Nat := tr l.reverse
theorem tr_le (r : List Byte) : tr r ≤ 3 := by unfold tr; split; (exact Nat.le_refl _); split; omega; split <;> omega
theorem tl_le (l : List Byte) : tl l ≤ 3 := tr_le _
theorem tr_len (r : List Byte) : tr r ≤ r.length := by
  unfold tr
  split
  · rename_i h; have := congrArg List.length h; simp only [List.length_take, List.length_cons, List.length_nil] at this; omega
  · split
    · rename_i h; have := congrArg List.length h; simp only [List.length_take, List.length_cons, List.length_nil] at this; omega
    · split
      · rename_i h; have := congrArg List.length h; simp only [List.length_take, List.length_cons, List.length_nil] at this; omega
      · omega
theorem tl_len (l : List Byte) : tl l ≤ l.length := by have := tr_len l.reverse; rwa [List.length_reverse] at this
theorem tl_nil : tl [] = 0 := by decide
theorem tr_next (r : List Byte) (x : Byte) (h : ¬ (tr r = 3 ∧ x = 29#8)) : tr (x :: r) = nx (tr r) x := by
  by_cases h3 : r.take 3 = [252#8, 207#8, 26#8]
  · obtain ⟨q, rfl⟩ : ∃ q, r = 252#8 :: 207#8 :: 26#8 :: q := ⟨r.drop 3, by rw [← List.take_append_drop 3 r, h3]; simp⟩
    have e : tr (252#8 :: 207#8 :: 26#8 :: q) = 3 := by simp [tr]
    rw [e] at h ⊢
    have hx : x ≠ 29#8 := fun e => h ⟨rfl, e⟩
    by_cases h26 : x = 26#8
    · subst h26; simp [tr, nx, pat]
    · simp [tr, nx, pat, h26, hx, Ne.symm hx]
  · by_cases h2 : r.take 2 = [207#8, 26#8]
    · obtain ⟨q, rfl⟩ : ∃ q, r = 207#8 :: 26#8 :: q := ⟨r.drop 2, by rw [← List.take_append_drop 2 r, h2]; simp⟩
      have e : tr (207#8 :: 26#8 :: q) = 2 := by simp [tr]
      rw [e]
      by_cases h26 : x = 26#8
      · subst h26; simp [tr, nx, pat]
      · by_cases hx : x = 252#8
        · subst hx; simp [tr, nx, pat]
        · simp [tr, nx, pat, h26, hx, Ne.symm hx]
    · by_cases h1 : r.take 1 = [26#8]
      · obtain ⟨q, rfl⟩ : ∃ q, r = 26#8 :: q := ⟨r.drop 1, by rw [← List.take_append_drop 1 r, h1]; simp⟩
        have e : tr (26#8 :: q) = 1 := by simp [tr]
        rw [e]
        by_cases h26 : x = 26#8
        · subst h26; simp [tr, nx, pat]
        · by_cases hx : x = 207#8
          · subst hx; simp [tr, nx, pat]
          · simp [tr, nx, pat, h26, hx, Ne.symm hx]
      · have e : tr r = 0 := by unfold tr; rw [if_neg h3, if_neg h2, if_neg h1]
        rw [e]
        have t3 : (x :: r).take 3 ≠ [252#8, 207#8, 26#8] := fun hh => h2 (by simpa using (List.cons.inj (show x :: r.take 2 = _ from hh)).2)
        have t2 : (x :: r).take 2 ≠ [207#8, 26#8] := fun hh => h1 (by simpa using (List.cons.inj (show x :: r.take 1 = _ from hh)).2)
        unfold tr
        rw [if_neg t3, if_neg t2]
        by_cases h26 : x = 26#8
        · subst h26; simp [nx, pat]
        · simp [nx, pat, h26, Ne.symm h26]
theorem tl_next (g : List Byte) (x : Byte) (h : ¬ (tl g = 3 ∧ x = 29#8)) : tl (g ++ [x]) = nx (tl g) x := by
  unfold tl at h ⊢
  rw [List.reverse_append]
  exact tr_next _ _ h
/-- a marker begins at index j -/
def mrk (b : List Byte) (j : Nat) : Prop := (b.drop j).take 4 = pat
instance (b : List Byte) (j : Nat) : Decidable (mrk b j) := inferInstanceAs (Decidable (_ = _))
theorem mrk_le {b : List Byte} {j : Nat} (h : mrk b j) : j + 4 ≤ b.length := by
  have := congrArg List.length h
  rw [List.length_take, List.length_drop, pat_len] at this
  omega
theorem tl_three {g : List Byte} (h : tl g = 3) : ∃ q, g = q ++ [26#8, 207#8, 252#8] := by
  unfold tl tr at h
  split at h
  · rename_i h3
    refine ⟨(g.reverse.drop 3).reverse, ?_⟩
    have e : g.reverse = [252#8, 207#8, 26#8] ++ g.reverse.drop 3 := by rw [← h3, List.take_append_drop]
    have := congrArg List.reverse e
    rw [List.reverse_reverse, List.reverse_append] at this
    rw [this]; simp
  · split at h
    · omega
    · split at h <;> omega
/-- bytes in which no marker stands, fed while a marker is searched -/
theorem run_gap (N k : Nat) (g : List Byte) (hg : ∀ j, ¬ mrk g j) : run N ⟨0, [], k⟩ g = ⟨tl g, [], k + g.length - tl g⟩ ∧ out N ⟨0, [], k⟩ g = [] := by
  have key : ∀ n, n ≤ g.length → run N ⟨0, [], k⟩ (g.take n) = ⟨tl (g.take n), [], k + n - tl (g.take n)⟩ ∧ out N ⟨0, [], k⟩ (g.take n) = [] := by
    intro n
    induction n with
    | zero => intro _; rw [List.take_zero, tl_nil]; exact ⟨rfl, rfl⟩
    | succ n ih =>
      intro hn
      obtain ⟨h1, h2⟩ := ih (by omega)
      have hl : n < g.length := by omega
      have hle := tl_le (g.take n)
      have hlen := tl_len (g.take n)
      rw [List.length_take, Nat.min_eq_left (by omega)] at hlen
      have hno : ¬ (tl (g.take n) = 3 ∧ g[n] = 29#8) := by
        rintro ⟨e3, ex⟩
        obtain ⟨q, hq⟩ := tl_three e3
        have hql : q.length + 3 = n := by
          have := congrArg List.length hq
          rw [List.length_take, List.length_append] at this
          simp only [List.length_cons, List.length_nil] at this
          omega
        apply hg q.length
        have e : g = q ++ ([26#8, 207#8, 252#8, 29#8] ++ g.drop (n + 1)) := by
          have h0 : g = g.take (n + 1) ++ g.drop (n + 1) := (List.take_append_drop _ _).symm
          rw [List.take_add_one, List.getElem?_eq_getElem hl, hq, ex] at h0
          simpa using h0
        unfold mrk
        rw [e, List.drop_left]; simp [pat]
      have hnx := tl_next (g.take n) g[n] hno
      have hsum := nx_sx (tl (g.take n)) g[n]
      have ht : g.take (n + 1) = g.take n ++ [g[n]] := by rw [List.take_add_one, List.getElem?_eq_getElem hl]; rfl
      rw [run_take hl, out_take hl, h1, h2]
      unfold step ost
      simp only
      rw [if_pos (by omega), if_pos (by omega), ht, hnx]
      refine ⟨?_, rfl⟩
      congr 1
      omega
  have := key g.length (Nat.le_refl _)
  rwa [List.take_length] at this

/-! ### the reference's look at a stream -/
/-- the reference at index i: the search goes on from f, k bytes were skipped, the frames o were found -/
structure Rf (N : Nat) (b : List Byte) (f k : Nat) (o : List (List Byte)) (i : Nat) : Prop where
  le : f ≤ b.length
  r : run N ⟨0, [], 0⟩ (b.take f) = ⟨0, [], k⟩
  o : out N ⟨0, [], 0⟩ (b.take f) = o
  no : ∀ j, f ≤ j → j < i → ¬ mrk b j
section
variable {N f k i : Nat} {b : List Byte} {o : List (List Byte)}
theorem Rf.start (b : List Byte) : Rf N b 0 0 [] 0 := ⟨Nat.zero_le _, rfl, rfl, fun _ _ h => absurd h (by omega)⟩
theorem Rf.next (h : Rf N b f k o i) (hi : i < f ∨ ¬ mrk b i) : Rf N b f k o (i + 1) := ⟨h.le, h.r, h.o, fun j h1 h2 => by
  by_cases e : j < i
  · exact h.no j h1 e
  · obtain rfl : j = i := by omega
    exact hi.elim (fun h => by omega) id⟩
theorem split3 {f i : Nat} (b : List Byte) (h1 : f ≤ i) (h2 : mrk b i) : b = b.take f ++ ((b.drop f).take (i - f) ++ (pat ++ b.drop (i + 4))) := by
  have e1 : b.drop i = pat ++ b.drop (i + 4) := by
    conv => lhs; rw [← List.take_append_drop 4 (b.drop i), show (b.drop i).take 4 = pat from h2, List.drop_drop]
  have e2 : b.drop f = (b.drop f).take (i - f) ++ b.drop i := by
    conv => lhs; rw [← List.take_append_drop (i - f) (b.drop f), List.drop_drop, show f + (i - f) = i by omega]
  rw [← e1, ← e2, List.take_append_drop]
theorem Rf.gap (h : Rf N b f k o i) (hf : f ≤ i) (hm : mrk b i) : run N ⟨0, [], 0⟩ (b.take f ++ ((b.drop f).take (i - f) ++ pat)) = ⟨4, [], k + (i - f)⟩ ∧ out N ⟨0, [], 0⟩ (b.take f ++ ((b.drop f).take (i - f) ++ pat)) = o := by
  have hle := mrk_le hm
  have hgl : ((b.drop f).take (i - f)).length = i - f := by rw [List.length_take, List.length_drop]; omega
  have hg : ∀ j, ¬ mrk ((b.drop f).take (i - f)) j := by
    intro j hj
    have hj4 := mrk_le hj
    rw [hgl] at hj4
    refine h.no (f + j) (by omega) (by omega) ?_
    unfold mrk at hj ⊢
    rw [List.drop_take, List.take_take, Nat.min_eq_left (by omega), List.drop_drop] at hj
    exact hj
  obtain ⟨g1, g2⟩ := run_gap N k _ hg
  have hle3 := tl_le ((b.drop f).take (i - f))
  have hlen := tl_len ((b.drop f).take (i - f))
  rw [hgl] at g1 hlen
  obtain ⟨p1, p2⟩ := run_pat N (tl ((b.drop f).take (i - f))) (k + (i - f) - tl ((b.drop f).take (i - f))) (by omega)
  rw [run_append, run_append, out_append, out_append, h.r, h.o, g1, g2, p1, p2]
  refine ⟨?_, by simp⟩
  congr 1
  omega
/-- a frame that is not whole -/
theorem Rf.cut (h : Rf N b f k o i) (hf : f ≤ i) (hm : mrk b i) (hN : b.length < i + 4 + N) : (run N ⟨0, [], 0⟩ b).sk = k + (i - f) ∧ out N ⟨0, [], 0⟩ b = o := by
  obtain ⟨g1, g2⟩ := h.gap hf hm
  have e := split3 b hf hm
  obtain ⟨q1, q2⟩ := run_frame N (k + (i - f)) (b.drop (i + 4)) [] (by have := mrk_le hm; rw [List.length_drop, List.length_nil]; omega)
  have e' : b = (b.take f ++ ((b.drop f).take (i - f) ++ pat)) ++ b.drop (i + 4) := by simpa using e
  refine ⟨?_, ?_⟩
  · conv => lhs; rw [e', run_append, g1, q1]
  · conv => lhs; rw [e', out_append, g1, g2, q2]
    simp
/-- a whole frame -/
theorem Rf.frame (h : Rf N b f k o i) (hf : f ≤ i) (hm : mrk b i) (hN0 : 0 < N) (hN : i + 4 + N ≤ b.length) : Rf N b (i + 4 + N) (k + (i - f)) (o ++ [app ((b.drop (i + 4)).take N)]) (i + 1) := by
  obtain ⟨g1, g2⟩ := h.gap hf hm
  have e := split3 b hf hm
  have hl : ((b.drop (i + 4)).take N).length = N := by rw [List.length_take, List.length_drop]; omega
  obtain ⟨q1, q2⟩ := run_whole (k + (i - f)) hl hN0
  have e' : b.take (i + 4 + N) = (b.take f ++ ((b.drop f).take (i - f) ++ pat)) ++ (b.drop (i + 4)).take N := by
    have hpl : (b.take f ++ ((b.drop f).take (i - f) ++ pat)).length = i + 4 := by
      rw [List.length_append, List.length_append, List.length_take, List.length_take, List.length_drop, pat_len]; omega
    have e2 : b = (b.take f ++ ((b.drop f).take (i - f) ++ pat)) ++ b.drop (i + 4) := by simpa using e
    have h4 : b.take (i + 4) = b.take f ++ ((b.drop f).take (i - f) ++ pat) := by
      have h5 := List.take_append_drop (i + 4) b
      exact (List.append_inj (h5.trans e2) (by rw [hpl, List.length_take]; omega)).1
    rw [List.take_add, h4]
  refine ⟨hN, ?_, ?_, fun j h1 h2 => absurd h2 (by omega)⟩
  · rw [e', run_append, g1, q1]
  · rw [e', out_append, g1, g2, q2]
/-- the end of the stream -/
theorem Rf.done (h : Rf N b f k o b.length) : (run N ⟨0, [], 0⟩ b).sk = k + (b.drop f).length - tl (b.drop f) ∧ out N ⟨0, [], 0⟩ b = o := by
  have hg : ∀ j, ¬ mrk (b.drop f) j := by
    intro j hj
    have hj4 := mrk_le hj
    rw [List.length_drop] at hj4
    refine h.no (f + j) (by omega) (by have := h.le; omega) ?_
    unfold mrk at hj ⊢
    rwa [List.drop_drop] at hj
  obtain ⟨g1, g2⟩ := run_gap N k _ hg
  refine ⟨?_, ?_⟩
  · conv => lhs; rw [← List.take_append_drop f b, run_append, h.r, g1]
  · conv => lhs; rw [← List.take_append_drop f b, out_append, h.r, h.o, g2]
    simp
end
/-- the reference's search for the tail, from length k on -/
def tk (l : List Byte) : Nat → Nat
  | 0 => 0
  | k + 1 => if l.drop (l.length - (k + 1)) = pat.take (k + 1) then k + 1 else tk l k
theorem tk_tl (l : List Byte) : tk l (min 3 l.length) = tl l := by
  have hc : ∀ k, k ≤ 3 → (l.drop (l.length - k) = pat.take k ↔ l.reverse.take k = (pat.take k).reverse) := by
    intro k _
    rw [List.take_reverse, List.reverse_inj]
  have h3 := hc 3 (by omega)
  have h2 := hc 2 (by omega)
  have h1 := hc 1 (by omega)
  have key : tk l 3 = tl l := by
    unfold tl tr
    simp only [tk, h3, h2, h1]
    simp [pat]
  rw [← key]
  have hlt : ∀ k, l.length < k → k ≤ 4 → ¬ (l.drop (l.length - k) = pat.take k) := by
    intro k hk h4 e
    have := congrArg List.length e
    rw [List.length_drop, List.length_take, pat_len] at this
    omega
  by_cases e0 : 3 ≤ l.length
  · rw [Nat.min_eq_left e0]
  · have hn3 := hlt 3 (by omega) (by omega)
    by_cases e1 : l.length = 2
    · rw [e1]
      show tk l 2 = if l.drop (l.length - 3) = pat.take 3 then 3 else tk l 2
      rw [if_neg hn3]
    · have hn2 := hlt 2 (by omega) (by omega)
      by_cases e2 : l.length = 1
      · rw [e2]
        show tk l 1 = if l.drop (l.length - 3) = pat.take 3 then 3 else if l.drop (l.length - 2) = pat.take 2 then 2 else tk l 1
        rw [if_neg hn3, if_neg hn2]
      · have hn1 := hlt 1 (by omega) (by omega)
        have e3 : l.length = 0 := by omega
        rw [e3]
        show tk l 0 = if l.drop (l.length - 3) = pat.take 3 then 3 else if l.drop (l.length - 2) = pat.take 2 then 2 else if l.drop (l.length - 1) = pat.take 1 then 1 else tk l 0
        rw [if_neg hn3, if_neg hn2, if_neg hn1]

/-! ### small streams -/
/-- what the law's 'few' says -/
def szs (ls : List (List Byte)) : Nat := (ls.map fun l => min l.length 4000).sum
theorem szs_snoc (ls : List (List Byte)) (l : List Byte) : szs (ls ++ [l]) = szs ls + min l.length 4000 := by simp [szs]
theorem szs_take_le (ls : List (List Byte)) (k : Nat) : szs (ls.take k) ≤ szs ls := by
  have : szs ls = szs (ls.take k) + szs (ls.drop k) := by
    unfold szs
    rw [← List.sum_append, ← List.map_append, List.take_append_drop]
  omega
theorem szs_take {ls : List (List Byte)} {k : Nat} {l : List Byte} (h : ls[k]? = some l) : szs (ls.take (k + 1)) = szs (ls.take k) + min l.length 4000 := by
  rw [List.take_add_one, h]; exact szs_snoc _ _
theorem cat_len {ls : List (List Byte)} (h : szs ls ≤ 3000) : ls.flatten.length = szs ls := by
  induction ls with
  | nil => rfl
  | cons l ls ih =>
    have e : szs (l :: ls) = min l.length 4000 + szs ls := by simp [szs]
    rw [e] at h ⊢
    rw [List.flatten_cons, List.length_append, ih (by omega)]
    omega
end Go.Proofs.Ytahpogmbkkpmdaa.Mar
