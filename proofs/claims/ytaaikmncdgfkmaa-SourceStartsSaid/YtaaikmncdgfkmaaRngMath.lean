/-
  Sets of integers as lists of ranges: plain mathematics, no dump.
-/
import Derived.Lib.Hide
namespace Go.Proofs.Ytaaikmncdgfkmaa.Rng

abbrev R := Int × Int

def emp (r : R) : Bool := decide (r.2 ≤ r.1)
def mem (l : List R) (n : Int) : Prop := ∃ r ∈ l, r.1 ≤ n ∧ n < r.2
def has (l : List R) (n : Int) : Bool := l.any fun r => decide (r.1 ≤ n) && decide (n < r.2)

theorem has_iff (l : List R) (n : Int) : has l n = true ↔ mem l n := by
  simp [has, mem]
theorem mem_nil (n : Int) : mem [] n ↔ False := by simp [mem]
theorem mem_cons (x : R) (l : List R) (n : Int) : mem (x :: l) n ↔ (x.1 ≤ n ∧ n < x.2) ∨ mem l n := by simp [mem]
theorem mem_append (a b : List R) (n : Int) : mem (a ++ b) n ↔ mem a n ∨ mem b n := by
  simp only [mem, List.mem_append]
  constructor
  · rintro ⟨r, h | h, h2⟩
    · exact .inl ⟨r, h, h2⟩
    · exact .inr ⟨r, h, h2⟩
  · rintro (⟨r, h, h2⟩ | ⟨r, h, h2⟩)
    · exact ⟨r, .inl h, h2⟩
    · exact ⟨r, .inr h, h2⟩

/-- non-empty ranges that ascend and lie apart, all beyond lo -/
def Asc : Int → List R → Prop
  | _, [] => True
  | lo, r :: l => lo < r.1 ∧ r.1 < r.2 ∧ Asc r.2 l
def Canon (l : List R) : Prop := ∃ lo, Asc lo l

theorem Asc.mono : ∀ {l : List R} {lo lo' : Int}, Asc lo l → lo' ≤ lo → Asc lo' l
  | [], _, _, _, _ => trivial
  | _ :: _, _, _, ⟨h1, h2, h3⟩, h => ⟨by omega, h2, h3⟩
theorem Asc.low : ∀ {l : List R} {lo : Int}, Asc lo l → ∀ x ∈ l, lo < x.1 ∧ x.1 < x.2
  | [], _, _, x, hx => by simp at hx
  | r :: l, lo, ⟨h1, h2, h3⟩, x, hx => by
    rcases List.mem_cons.1 hx with rfl | hx
    · exact ⟨h1, h2⟩
    · have := Asc.low h3 x hx; omega
theorem Asc.mem_low {l : List R} {lo : Int} (h : Asc lo l) {n : Int} (hn : mem l n) : lo < n := by
  obtain ⟨r, hr, h1, h2⟩ := hn
  have := h.low r hr; omega

theorem canon_unique : ∀ {a b : List R} {la lb : Int}, Asc la a → Asc lb b → (∀ n, mem a n ↔ mem b n) → a = b
  | [], [], _, _, _, _, _ => rfl
  | [], s :: b, _, _, _, ⟨h1, h2, _⟩, h => by
    have := (h s.1).2 ((mem_cons _ _ _).2 (.inl ⟨by omega, h2⟩))
    simp [mem] at this
  | r :: a, [], _, _, ⟨h1, h2, _⟩, _, h => by
    have := (h r.1).1 ((mem_cons _ _ _).2 (.inl ⟨by omega, h2⟩))
    simp [mem] at this
  | r :: a, s :: b, _, _, ⟨_, h2, h3⟩, ⟨_, g2, g3⟩, h => by
    have fwd : ∀ n, mem (r :: a) n → r.1 ≤ n := fun n hn => by
      rcases (mem_cons _ _ _).1 hn with hn | hn
      · exact hn.1
      · have := h3.mem_low hn; omega
    have bwd : ∀ n, mem (s :: b) n → s.1 ≤ n := fun n hn => by
      rcases (mem_cons _ _ _).1 hn with hn | hn
      · exact hn.1
      · have := g3.mem_low hn; omega
    have e1 : r.1 = s.1 := by
      have a1 := bwd r.1 ((h r.1).1 ((mem_cons _ _ _).2 (.inl ⟨by omega, h2⟩)))
      have a2 := fwd s.1 ((h s.1).2 ((mem_cons _ _ _).2 (.inl ⟨by omega, g2⟩)))
      omega
    have e2 : r.2 = s.2 := by
      rcases Int.lt_trichotomy r.2 s.2 with hlt | he | hgt
      · have := (h r.2).2 ((mem_cons _ _ _).2 (.inl ⟨by omega, hlt⟩))
        rcases (mem_cons _ _ _).1 this with t | t
        · omega
        · have := h3.mem_low t; omega
      · exact he
      · have := (h s.2).1 ((mem_cons _ _ _).2 (.inl ⟨by omega, hgt⟩))
        rcases (mem_cons _ _ _).1 this with t | t
        · omega
        · have := g3.mem_low t; omega
    have e : r = s := Prod.ext e1 e2
    subst e
    have : a = b := canon_unique h3 g3 fun n => by
      constructor
      · intro hn
        rcases (mem_cons _ _ _).1 ((h n).1 ((mem_cons _ _ _).2 (.inr hn))) with t | t
        · have := h3.mem_low hn; omega
        · exact t
      · intro hn
        rcases (mem_cons _ _ _).1 ((h n).2 ((mem_cons _ _ _).2 (.inr hn))) with t | t
        · have := g3.mem_low hn; omega
        · exact t
    rw [this]
theorem Canon.unique {a b : List R} (ha : Canon a) (hb : Canon b) (h : ∀ n, mem a n ↔ mem b n) : a = b := by
  obtain ⟨_, ha⟩ := ha
  obtain ⟨_, hb⟩ := hb
  exact canon_unique ha hb h
theorem Canon.nil : Canon [] := ⟨0, trivial⟩

theorem asc_snoc : ∀ {u : List R} {t : R} {lo : Int}, Asc lo (u ++ [t]) ↔ Asc lo u ∧ lo < t.1 ∧ t.1 < t.2 ∧ ∀ x ∈ u, x.2 < t.1
  | [], t, lo => by simp [Asc]
  | r :: u, t, lo => by
    simp only [List.cons_append, Asc, asc_snoc (u := u), List.mem_cons]
    constructor
    · rintro ⟨h1, h2, h3, h4, h5, h6⟩
      refine ⟨⟨h1, h2, h3⟩, by omega, h5, ?_⟩
      rintro x (rfl | hx)
      · exact h4
      · exact h6 x hx
    · rintro ⟨⟨h1, h2, h3⟩, h4, h5, h6⟩
      exact ⟨h1, h2, h3, h6 r (.inl rfl), h5, fun x hx => h6 x (.inr hx)⟩

/-! ### join, the program's -/
def join (v : List R) (r : R) : List R :=
  if emp r then v else match v.getLast? with
    | none => [r]
    | some t => if t.2 < r.1 then v ++ [r] else v.dropLast ++ [(t.1, max t.2 r.2)]

theorem join_emp {v : List R} {r : R} (h : r.2 ≤ r.1) : join v r = v := by simp [join, emp, h]
theorem join_nil {r : R} (h : r.1 < r.2) : join [] r = [r] := by simp [join, emp, Int.not_le.2 h]
theorem join_snoc {u : List R} {t r : R} (h : r.1 < r.2) : join (u ++ [t]) r = if t.2 < r.1 then u ++ [t] ++ [r] else u ++ [(t.1, max t.2 r.2)] := by
  simp [join, emp, Int.not_le.2 h]
theorem join_apart {v : List R} {r : R} (h : r.1 < r.2) (hv : ∀ y ∈ v, y.2 < r.1) : join v r = v ++ [r] := by
  rcases List.eq_nil_or_concat v with rfl | ⟨u, t, rfl⟩
  · exact join_nil h
  · rw [List.concat_eq_append] at hv ⊢
    rw [join_snoc h, if_pos (hv t (by simp))]
theorem join_length (v : List R) (r : R) : (join v r).length ≤ v.length + 1 := by
  rcases Int.lt_or_le r.1 r.2 with h | h
  · rcases List.eq_nil_or_concat v with rfl | ⟨u, t, rfl⟩
    · simp [join_nil h]
    · rw [List.concat_eq_append, join_snoc h]; split <;> simp
  · simp [join_emp h]

theorem join_spec {v : List R} {r : R} (hc : Canon v) (hf : ∀ x ∈ v, x.1 ≤ r.1) :
    Canon (join v r) ∧ (∀ n, mem (join v r) n ↔ mem v n ∨ (r.1 ≤ n ∧ n < r.2)) ∧ ∀ x ∈ join v r, x.1 ≤ r.1 := by
  rcases Int.lt_or_le r.1 r.2 with h | h
  · rcases List.eq_nil_or_concat v with rfl | ⟨u, t, rfl⟩
    · rw [join_nil h]
      exact ⟨⟨r.1 - 1, by omega, h, trivial⟩, fun n => by simp [mem], by simp⟩
    · rw [List.concat_eq_append] at hc hf ⊢
      obtain ⟨lo, hc⟩ := hc
      have hs := asc_snoc.1 hc
      obtain ⟨h1, h2, h3, h4⟩ := hs
      have ht := hf t (by simp)
      rw [join_snoc h]
      by_cases hlt : t.2 < r.1
      · rw [if_pos hlt]
        refine ⟨⟨lo, asc_snoc.2 ⟨hc, by omega, h, fun x hx => ?_⟩⟩, fun n => by rw [mem_append, mem_cons, mem_nil]; simp, fun x hx => ?_⟩
        · rcases List.mem_append.1 hx with hx | hx
          · have := h4 x hx; omega
          · simp at hx; subst hx; exact hlt
        · rcases List.mem_append.1 hx with hx | hx
          · exact hf x hx
          · simp at hx; subst hx; exact Int.le_refl _
      · rw [if_neg hlt]
        refine ⟨⟨lo, asc_snoc.2 ⟨h1, h2, by simp; omega, h4⟩⟩, fun n => ?_, fun x hx => ?_⟩
        · simp only [mem_append, mem_cons, mem_nil, or_false]
          by_cases hm : mem u n
          · simp [hm]
          · simp only [hm, false_or]; omega
        · rcases List.mem_append.1 hx with hx | hx
          · exact hf x (by simp [hx])
          · simp at hx; subst hx; exact ht
  · rw [join_emp h]
    exact ⟨hc, fun n => by constructor
                           · exact .inl
                           · rintro (h1 | h1)
                             · exact h1
                             · omega, hf⟩

theorem joins_spec : ∀ (s : List R) (v : List R), Canon v → (∀ x ∈ v, ∀ y ∈ s, x.1 ≤ y.1) → s.Pairwise (fun a b => a.1 ≤ b.1) →
    Canon (s.foldl join v) ∧ ∀ n, mem (s.foldl join v) n ↔ mem v n ∨ mem s n
  | [], v, hc, _, _ => ⟨hc, fun n => by simp [mem_nil]⟩
  | r :: s, v, hc, hf, hs => by
    obtain ⟨hr, hs⟩ := List.pairwise_cons.1 hs
    obtain ⟨h1, h2, h3⟩ := join_spec hc (fun x hx => hf x hx r (by simp))
    obtain ⟨g1, g2⟩ := joins_spec s (join v r) h1 (fun x hx y hy => by have := h3 x hx; have := hr y hy; omega) hs
    refine ⟨g1, fun n => ?_⟩
    rw [List.foldl_cons, g2, h2, mem_cons, or_assoc]

/-! ### insert, the reference's -/
def ins2 : List R → R → List R
  | [], r => [r]
  | x :: l, r => if x.1 ≤ r.2 then ins2 l (min r.1 x.1, max r.2 x.2) else r :: x :: l
def ins1 : List R → R → List R
  | [], r => [r]
  | x :: l, r => if x.2 < r.1 then x :: ins1 l r else ins2 (x :: l) r
def ins (l : List R) (r : R) : List R := if r.2 ≤ r.1 then l else ins1 l r
def nrm (l : List R) : List R := l.foldl ins []

theorem ins2_spec : ∀ {l : List R} {r : R} {lo : Int}, Asc lo l → lo < r.1 → r.1 < r.2 → (∀ x ∈ l, r.1 ≤ x.2) →
    Asc lo (ins2 l r) ∧ ∀ n, mem (ins2 l r) n ↔ mem l n ∨ (r.1 ≤ n ∧ n < r.2)
  | [], r, lo, _, h1, h2, _ => ⟨⟨h1, h2, trivial⟩, fun n => by simp [ins2, mem]⟩
  | x :: l, r, lo, ⟨a1, a2, a3⟩, h1, h2, h3 => by
    have hx := h3 x (by simp)
    by_cases h : x.1 ≤ r.2
    · rw [ins2, if_pos h]
      obtain ⟨g1, g2⟩ := ins2_spec (l := l) (r := (min r.1 x.1, max r.2 x.2)) (lo := lo) (a3.mono (by omega)) (by simp; omega) (by simp; omega) (fun y hy => by have := h3 y (by simp [hy]); simp; omega)
      refine ⟨g1, fun n => ?_⟩
      rw [g2, mem_cons]
      by_cases hm : mem l n
      · simp [hm]
      · simp only [hm, false_or, or_false]; omega
    · rw [ins2, if_neg h]
      exact ⟨⟨h1, h2, by omega, a2, a3⟩, fun n => by rw [mem_cons]; exact Or.comm⟩
theorem ins1_spec : ∀ {l : List R} {r : R} {lo : Int}, Asc lo l → lo < r.1 → r.1 < r.2 →
    Asc lo (ins1 l r) ∧ ∀ n, mem (ins1 l r) n ↔ mem l n ∨ (r.1 ≤ n ∧ n < r.2)
  | [], r, lo, _, h1, h2 => ⟨⟨h1, h2, trivial⟩, fun n => by simp [ins1, mem]⟩
  | x :: l, r, lo, ⟨a1, a2, a3⟩, h1, h2 => by
    by_cases h : x.2 < r.1
    · rw [ins1, if_pos h]
      obtain ⟨g1, g2⟩ := ins1_spec (l := l) (r := r) (lo := x.2) a3 h h2
      exact ⟨⟨a1, a2, g1⟩, fun n => by rw [mem_cons, g2, mem_cons, or_assoc]⟩
    · rw [ins1, if_neg h]
      exact ins2_spec ⟨a1, a2, a3⟩ h1 h2 fun y hy => by
        rcases List.mem_cons.1 hy with rfl | hy
        · omega
        · have := a3.low y hy; omega
theorem ins_spec {l : List R} {r : R} (h : Canon l) : Canon (ins l r) ∧ ∀ n, mem (ins l r) n ↔ mem l n ∨ (r.1 ≤ n ∧ n < r.2) := by
  by_cases hr : r.2 ≤ r.1
  · rw [ins, if_pos hr]
    exact ⟨h, fun n => by constructor
                          · exact .inl
                          · rintro (h1 | h1)
                            · exact h1
                            · omega⟩
  · rw [ins, if_neg hr]
    obtain ⟨lo, h⟩ := h
    obtain ⟨g1, g2⟩ := ins1_spec (lo := min lo (r.1 - 1)) (h.mono (by omega)) (by omega) (by omega : r.1 < r.2)
    exact ⟨⟨_, g1⟩, g2⟩
theorem inss_spec : ∀ (s : List R) (v : List R), Canon v → Canon (s.foldl ins v) ∧ ∀ n, mem (s.foldl ins v) n ↔ mem v n ∨ mem s n
  | [], v, hc => ⟨hc, fun n => by simp [mem_nil]⟩
  | r :: s, v, hc => by
    obtain ⟨h1, h2⟩ := ins_spec (r := r) hc
    obtain ⟨g1, g2⟩ := inss_spec s (ins v r) h1
    exact ⟨g1, fun n => by rw [List.foldl_cons, g2, h2, mem_cons, or_assoc]⟩
theorem nrm_canon (l : List R) : Canon (nrm l) := (inss_spec l [] Canon.nil).1
theorem nrm_mem (l : List R) (n : Int) : mem (nrm l) n ↔ mem l n := by
  have := (inss_spec l [] Canon.nil).2 n
  rw [mem_nil, false_or] at this
  exact this
theorem nrm_self {l : List R} (h : Canon l) : nrm l = l := (nrm_canon l).unique h (nrm_mem l)
theorem ins2_length : ∀ (l : List R) (r : R), (ins2 l r).length ≤ l.length + 1
  | [], r => by simp [ins2]
  | x :: l, r => by
    rw [ins2]
    split
    · have := ins2_length l (min r.1 x.1, max r.2 x.2); simp; omega
    · simp
theorem ins1_length : ∀ (l : List R) (r : R), (ins1 l r).length ≤ l.length + 1
  | [], r => by simp [ins1]
  | x :: l, r => by
    rw [ins1]
    split
    · have := ins1_length l r; simp; omega
    · exact ins2_length _ _
theorem ins_length (l : List R) (r : R) : (ins l r).length ≤ l.length + 1 := by
  unfold ins; split
  · omega
  · exact ins1_length l r
theorem inss_length : ∀ (s v : List R), (s.foldl ins v).length ≤ v.length + s.length
  | [], v => by simp
  | r :: s, v => by have := inss_length s (ins v r); have := ins_length v r; simp; omega
theorem nrm_length (l : List R) : (nrm l).length ≤ l.length := by have := inss_length l []; simpa [nrm] using this

theorem joins_nrm {s l : List R} (hs : s.Pairwise fun a b => a.1 ≤ b.1) (hp : s.Perm l) : s.foldl join [] = nrm l := by
  obtain ⟨h1, h2⟩ := joins_spec s [] Canon.nil (by simp) hs
  refine h1.unique (nrm_canon l) fun n => ?_
  rw [h2, mem_nil, false_or, nrm_mem]
  simp only [mem, hp.mem_iff]

/-- Add, of both -/
def add (l : List R) (r : R) : List R := ins (nrm l) r
theorem nrm_snoc (l : List R) (r : R) : nrm (l ++ [r]) = add l r := by simp [nrm, add, List.foldl_append]
theorem add_canon (l : List R) (r : R) : Canon (add l r) := (ins_spec (nrm_canon l)).1
theorem add_mem (l : List R) (r : R) (n : Int) : mem (add l r) n ↔ mem l n ∨ (r.1 ≤ n ∧ n < r.2) := by rw [add, (ins_spec (nrm_canon l)).2, nrm_mem]
theorem add_length (l : List R) (r : R) : (add l r).length ≤ l.length + 1 := by have := ins_length (nrm l) r; have := nrm_length l; unfold add; omega

/-! ### Valid -/
def vldA : Option Int → List R → Bool
  | _, [] => true
  | p, r :: l => !(emp r) && (p.all fun q => decide (q < r.1)) && vldA (some r.2) l
def vld (l : List R) : Bool := vldA none l
theorem vldA_asc : ∀ {l : List R} {lo : Int}, Asc lo l → vldA (some lo) l = true
  | [], _, _ => rfl
  | r :: l, lo, ⟨h1, h2, h3⟩ => by simp [vldA, emp, h1, h2, vldA_asc h3]
theorem vld_canon {l : List R} (h : Canon l) : vld l = true := by
  obtain ⟨lo, h⟩ := h
  cases l with
  | nil => rfl
  | cons r l => obtain ⟨h1, h2, h3⟩ := h; simp [vld, vldA, emp, h2, vldA_asc h3]

/-! ### Remove -/
def fst_ (x r : R) : R := (x.1, min x.2 r.1)
def snd_ (x r : R) : R := (max x.1 r.2, x.2)
def one (r : R) : List R := if r.1 < r.2 then [r] else []
def cut (x r : R) : List R := one (fst_ x r) ++ one (snd_ x r)
def rmv (s : List R) (r : R) : List R := if r.2 ≤ r.1 then s else s.flatMap fun x => cut x r

theorem one_pos {r : R} (h : r.1 < r.2) : one r = [r] := if_pos h
theorem one_neg {r : R} (h : ¬ r.1 < r.2) : one r = [] := if_neg h
theorem one_mem (r : R) (n : Int) : mem (one r) n ↔ r.1 ≤ n ∧ n < r.2 := by
  unfold one; split
  · simp [mem]
  · simp [mem]; omega
theorem cut_mem (x r : R) (n : Int) : mem (cut x r) n ↔ (x.1 ≤ n ∧ n < x.2) ∧ ¬ (r.1 ≤ n ∧ n < r.2) := by
  simp only [cut, mem_append, one_mem, fst_, snd_]; omega
theorem cuts_mem (s : List R) (r : R) (n : Int) : mem (s.flatMap fun x => cut x r) n ↔ mem s n ∧ ¬ (r.1 ≤ n ∧ n < r.2) := by
  induction s with
  | nil => simp [mem]
  | cons x s ih => rw [List.flatMap_cons, mem_append, ih, cut_mem x r, mem_cons, or_and_right]
theorem asc_one {r : R} {l : List R} {lo : Int} (h1 : lo < r.1) (h2 : Asc (max lo r.2) l) : Asc lo (one r ++ l) := by
  unfold one; split
  · rename_i h; exact ⟨h1, h, h2.mono (by omega)⟩
  · exact h2.mono (by omega)
theorem cuts_asc : ∀ {s : List R} {r : R} {lo : Int}, r.1 < r.2 → Asc lo s → Asc lo (s.flatMap fun x => cut x r)
  | [], _, _, _, _ => trivial
  | x :: s, r, lo, hr, ⟨h1, h2, h3⟩ => by
    have ih := cuts_asc hr h3
    rw [List.flatMap_cons]
    generalize (s.flatMap fun x => cut x r) = rest at ih ⊢
    unfold cut
    by_cases c1 : x.1 < min x.2 r.1
    · rw [one_pos (r := fst_ x r) c1]
      by_cases c2 : max x.1 r.2 < x.2
      · rw [one_pos (r := snd_ x r) c2]; exact ⟨h1, c1, by simp [fst_, snd_]; omega, c2, ih⟩
      · rw [one_neg (r := snd_ x r) c2]; exact ⟨h1, c1, ih.mono (by simp [fst_]; omega)⟩
    · rw [one_neg (r := fst_ x r) c1]
      by_cases c2 : max x.1 r.2 < x.2
      · rw [one_pos (r := snd_ x r) c2]; exact ⟨by simp [snd_]; omega, c2, ih⟩
      · rw [one_neg (r := snd_ x r) c2]; exact ih.mono (by omega)
theorem rmv_canon {s : List R} (r : R) (h : Canon s) : Canon (rmv s r) := by
  unfold rmv; split
  · exact h
  · obtain ⟨lo, h⟩ := h; exact ⟨lo, cuts_asc (by omega) h⟩
theorem rmv_mem (s : List R) (r : R) (n : Int) : mem (rmv s r) n ↔ mem s n ∧ ¬ (r.1 ≤ n ∧ n < r.2) := by
  unfold rmv; split
  · constructor
    · exact fun h => ⟨h, by omega⟩
    · exact fun h => h.1
  · exact cuts_mem s r n
theorem one_length (r : R) : (one r).length ≤ 1 := by unfold one; split <;> simp
theorem cuts_length : ∀ {s : List R} {r : R} {lo : Int}, r.1 < r.2 → Asc lo s → (s.flatMap fun x => cut x r).length ≤ s.length + 1 ∧ (r.1 ≤ lo → (s.flatMap fun x => cut x r).length ≤ s.length)
  | [], _, _, _, _ => by simp
  | x :: s, r, lo, hr, ⟨h1, h2, h3⟩ => by
    obtain ⟨i1, i2⟩ := cuts_length hr h3
    rw [List.flatMap_cons, List.length_append]
    generalize (s.flatMap fun x => cut x r) = rest at i1 i2 ⊢
    have o1 := one_length (fst_ x r)
    have o2 := one_length (snd_ x r)
    have k1 : r.1 ≤ x.1 → (one (fst_ x r)).length = 0 := fun h => by unfold one fst_; rw [if_neg (by simp; omega)]; rfl
    have k2 : x.2 ≤ r.2 → (one (snd_ x r)).length = 0 := fun h => by unfold one snd_; rw [if_neg (by simp; omega)]; rfl
    simp only [cut, List.length_append, List.length_cons]
    constructor
    · rcases Int.lt_or_le r.2 x.2 with h | h
      · have := i2 (by omega); omega
      · have := k2 h; omega
    · intro h
      have := k1 (by omega)
      have := i2 (by omega)
      omega
theorem rmv_length {s : List R} (r : R) (h : Canon s) : (rmv s r).length ≤ s.length + 1 := by
  unfold rmv; split
  · omega
  · obtain ⟨lo, h⟩ := h; exact (cuts_length (by omega) h).1

/-- the program's loop -/
def part (r : R) (left : List R) (x : R) : List R := join (join left (fst_ x r)) (snd_ x r)
theorem join_one {v : List R} {r : R} (hv : ∀ y ∈ v, y.2 < r.1) : join v r = v ++ one r := by
  unfold one
  rcases Int.lt_or_le r.1 r.2 with h | h
  · rw [join_apart h hv, if_pos h]
  · rw [join_emp h, if_neg (by omega)]; simp
theorem part_cut {r : R} {left : List R} {x : R} {lo : Int} (hr : r.1 < r.2) (hl : ∀ y ∈ left, y.2 ≤ lo) (h1 : lo < x.1) : part r left x = left ++ cut x r := by
  unfold part cut
  rw [join_one (v := left) (fun y hy => by have := hl y hy; simp [fst_]; omega), join_one, List.append_assoc]
  intro y hy
  rcases List.mem_append.1 hy with hy | hy
  · have := hl y hy; simp [snd_]; omega
  · unfold one at hy
    split at hy
    · simp at hy; subst hy; simp [fst_, snd_]; omega
    · simp at hy
theorem part_none {r : R} {left : List R} {x : R} {lo : Int} (hr : r.2 ≤ r.1) (hl : ∀ y ∈ left, y.2 ≤ lo) (h1 : lo < x.1) (h2 : x.1 < x.2) : part r left x = left ++ [x] := by
  unfold part
  rw [join_one (v := left) (fun y hy => by have := hl y hy; simp [fst_]; omega)]
  by_cases ha : x.1 < min x.2 r.1
  · unfold one
    rw [if_pos (by simpa [fst_] using ha)]
    by_cases hb : max x.1 r.2 < x.2
    · rw [join_snoc (by simpa [snd_] using hb), if_neg (by simp [fst_, snd_]; omega)]
      simp only [fst_, snd_]
      congr 2
      refine Prod.ext rfl ?_
      simp; omega
    · rw [join_emp (by simp [snd_]; omega)]
      simp only [fst_]
      congr 2
      refine Prod.ext rfl ?_
      simp; omega
  · unfold one
    rw [if_neg (by simpa [fst_] using ha), List.append_nil, join_apart (by simp [snd_]; omega) (fun y hy => by have := hl y hy; simp [snd_]; omega)]
    congr 2
    refine Prod.ext ?_ rfl
    simp [snd_]; omega
theorem one_fst_le {x r y : R} (h : y ∈ one (fst_ x r)) : y.2 ≤ x.2 := by
  unfold one at h; split at h
  · simp at h; subst h; simp [fst_]; omega
  · simp at h
theorem one_snd_le {x r y : R} (h : y ∈ one (snd_ x r)) : y.2 ≤ x.2 := by
  unfold one at h; split at h
  · simp at h; subst h; simp [snd_]
  · simp at h
theorem parts_rmv_from : ∀ {s : List R} {r : R} {left : List R} {lo : Int}, Asc lo s → (∀ y ∈ left, y.2 ≤ lo) → s.foldl (part r) left = left ++ rmv s r
  | [], r, left, lo, _, _ => by simp [rmv]
  | x :: s, r, left, lo, ⟨h1, h2, h3⟩, hl => by
    rw [List.foldl_cons]
    by_cases hr : r.2 ≤ r.1
    · rw [part_none hr hl h1 h2, parts_rmv_from (lo := x.2) h3]
      · simp [rmv, hr]
      · intro y hy
        rcases List.mem_append.1 hy with hy | hy
        · have := hl y hy; omega
        · simp at hy; subst hy; exact Int.le_refl _
    · rw [part_cut (by omega) hl h1, parts_rmv_from (lo := x.2) h3]
      · simp [rmv, hr]
      · intro y hy
        rcases List.mem_append.1 hy with hy | hy
        · have := hl y hy; omega
        · rcases List.mem_append.1 hy with hy | hy
          · exact one_fst_le hy
          · exact one_snd_le hy
theorem parts_rmv {s : List R} (r : R) (h : Canon s) : s.foldl (part r) [] = rmv s r := by
  obtain ⟨lo, h⟩ := h
  rw [parts_rmv_from h (by simp), List.nil_append]
theorem part_length (r : R) (left : List R) (x : R) : (part r left x).length ≤ left.length + 2 := by
  have := join_length (join left (fst_ x r)) (snd_ x r); have := join_length left (fst_ x r); unfold part; omega
theorem parts_length (r : R) : ∀ (s left : List R), (s.foldl (part r) left).length ≤ left.length + 2 * s.length
  | [], left => by simp
  | x :: s, left => by have := parts_length r s (part r left x); have := part_length r left x; simp; omega
/-- the reference's loop -/
theorem cuts_length2 (r : R) : ∀ s : List R, (s.flatMap fun x => cut x r).length ≤ 2 * s.length
  | [] => by simp
  | x :: s => by
    have := cuts_length2 r s; have := one_length (fst_ x r); have := one_length (snd_ x r)
    rw [List.flatMap_cons, List.length_append]
    generalize (s.flatMap fun x => cut x r) = rest at *
    simp only [cut, List.length_append, List.length_cons]; omega

/-! ### Missing -/
def gaps : Int → List R → Int → List R
  | next, [], total => one (next, total)
  | next, x :: s, total => one (next, min x.1 total) ++ gaps (max next x.2) s total
def mis (l : List R) (total : Int) : List R := gaps 0 (nrm l) total

theorem gaps_asc : ∀ {s : List R} {lo next total : Int}, Asc lo s → Asc (next - 1) (gaps next s total)
  | [], lo, next, total, _ => by
    have := asc_one (r := (next, total)) (l := []) (lo := next - 1) (by simp; omega) trivial
    simpa [gaps] using this
  | x :: s, lo, next, total, ⟨h1, h2, h3⟩ => asc_one (by simp; omega) ((gaps_asc (next := max next x.2) h3).mono (by simp; omega))
theorem gaps_mem : ∀ {s : List R} {lo next total : Int}, Asc lo s → ∀ n, mem (gaps next s total) n ↔ (next ≤ n ∧ n < total) ∧ ¬ mem s n
  | [], lo, next, total, _, n => by simp [gaps, one_mem, mem_nil]
  | x :: s, lo, next, total, ⟨h1, h2, h3⟩, n => by
    rw [gaps, mem_append, one_mem, gaps_mem h3, mem_cons]
    by_cases hm : mem s n
    · have := h3.mem_low hm; simp only [hm, not_true_eq_false, and_false, or_true, or_false, iff_false]; omega
    · simp only [hm, not_false_eq_true, and_true, or_false]; omega
theorem mis_canon (l : List R) (total : Int) : Canon (mis l total) := by
  obtain ⟨lo, h⟩ := nrm_canon l
  exact ⟨_, gaps_asc h⟩
theorem mis_mem (l : List R) (total n : Int) : mem (mis l total) n ↔ (0 ≤ n ∧ n < total) ∧ ¬ mem l n := by
  obtain ⟨lo, h⟩ := nrm_canon l
  rw [mis, gaps_mem h, nrm_mem]
theorem gaps_length : ∀ (s : List R) (next total : Int), (gaps next s total).length ≤ s.length + 1
  | [], next, total => one_length _
  | x :: s, next, total => by have := gaps_length s (max next x.2) total; have := one_length (next, min x.1 total); simp [gaps]; omega
theorem mis_length (l : List R) (total : Int) : (mis l total).length ≤ l.length + 1 := by have := gaps_length (nrm l) 0 total; have := nrm_length l; unfold mis; omega

/-- the program's loop: the list, and the next -/
def gap (total : Int) (p : List R × Int) (x : R) : List R × Int := (join p.1 (p.2, min x.1 total), max p.2 x.2)
theorem gap_from : ∀ {s : List R} {lo total next : Int} {m : List R}, Asc lo s → (∀ y ∈ m, y.2 < next) →
    (join (s.foldl (gap total) (m, next)).1 ((s.foldl (gap total) (m, next)).2, total)) = m ++ gaps next s total
  | [], lo, total, next, m, _, hm => by rw [List.foldl_nil, join_one (by simpa using hm)]; rfl
  | x :: s, lo, total, next, m, ⟨h1, h2, h3⟩, hm => by
    have e : gap total (m, next) x = (m ++ one (next, min x.1 total), max next x.2) := by
      unfold gap; rw [join_one (by simpa using hm)]
    rw [List.foldl_cons, e, gap_from h3, List.append_assoc]
    · rfl
    · intro y hy
      rcases List.mem_append.1 hy with hy | hy
      · have := hm y hy; omega
      · unfold one at hy; split at hy
        · simp at hy; subst hy; simp; omega
        · simp at hy
theorem gap_mis (l : List R) (total : Int) : join ((nrm l).foldl (gap total) ([], 0)).1 (((nrm l).foldl (gap total) ([], 0)).2, total) = mis l total := by
  obtain ⟨lo, h⟩ := nrm_canon l
  rw [gap_from h (by simp), List.nil_append]; rfl
theorem gapf_length (total : Int) : ∀ (s : List R) (p : List R × Int), (s.foldl (gap total) p).1.length ≤ p.1.length + s.length
  | [], p => by simp
  | x :: s, p => by have := gapf_length total s (gap total p x); have := join_length p.1 (p.2, min x.1 total); simp [gap] at *; omega

/-- the reference's -/
theorem rmvs_spec : ∀ (l v : List R), Canon v → Canon (l.foldl (fun o x => rmv (nrm o) x) v) ∧ (∀ n, mem (l.foldl (fun o x => rmv (nrm o) x) v) n ↔ mem v n ∧ ¬ mem l n) ∧
    (l.foldl (fun o x => rmv (nrm o) x) v).length ≤ v.length + l.length
  | [], v, h => ⟨h, fun n => by simp [mem_nil], by simp⟩
  | x :: l, v, h => by
    have e := nrm_self h
    obtain ⟨g1, g2, g3⟩ := rmvs_spec l (rmv v x) (rmv_canon x h)
    rw [List.foldl_cons, e]
    refine ⟨g1, fun n => ?_, ?_⟩
    · rw [g2, rmv_mem, mem_cons, not_or, and_assoc]
    · have := rmv_length x h; simp; omega
theorem rmvs_mis (l : List R) (total : Int) : l.foldl (fun o x => rmv (nrm o) x) (nrm [(0, total)]) = mis l total := by
  obtain ⟨g1, g2, _⟩ := rmvs_spec l (nrm [(0, total)]) (nrm_canon _)
  refine g1.unique (mis_canon l total) fun n => ?_
  rw [g2, nrm_mem, mis_mem, mem_cons, mem_nil, or_false]

/-! ### Size and Head -/
/-- the length of a range as a uint -/
def len (r : R) : Nat := ((r.2 - r.1) % 18446744073709551616).toNat
def In64 (l : List R) : Prop := ∀ x ∈ l, -9223372036854775808 ≤ x.1 ∧ x.1 < 9223372036854775808 ∧ -9223372036854775808 ≤ x.2 ∧ x.2 < 9223372036854775808
theorem len_lt (r : R) : len r < 18446744073709551616 := by unfold len; omega
theorem len_of {x : R} (h : x.1 < x.2) (h1 : -9223372036854775808 ≤ x.1) (h2 : x.2 < 9223372036854775808) : (len x : Int) = x.2 - x.1 := by unfold len; omega
def tot (l : List R) : Nat := l.foldl (fun s x => (s + len x) % 18446744073709551616) 0
def siz (l : List R) : Nat := min (tot (nrm l)) 9223372036854775807

def hd : List R → Nat → List R
  | [], _ => []
  | x :: s, n => if n = 0 then [] else if n < len x then [(x.1, x.1 + n)] else x :: hd s (n - len x)
/-- the program's loop: the list, and what is left to take -/
def take1 (p : List R × Nat) (x : R) : List R × Nat := (join p.1 (x.1, x.1 + (min p.2 (len x) : Nat)), p.2 - min p.2 (len x))
theorem take_zero : ∀ (s : List R) (m : List R), (s.foldl take1 (m, 0)).1 = m
  | [], m => rfl
  | x :: s, m => by
    have e : take1 (m, 0) x = (m, 0) := by simp [take1, join_emp]
    rw [List.foldl_cons, e]; exact take_zero s m
theorem take_from : ∀ {s : List R} {lo : Int} {m : List R} {n : Nat}, Asc lo s → In64 s → (∀ y ∈ m, y.2 ≤ lo) → (s.foldl take1 (m, n)).1 = m ++ hd s n
  | [], lo, m, n, _, _, _ => by simp [hd]
  | x :: s, lo, m, n, ⟨h1, h2, h3⟩, hi, hm => by
    have hx := hi x (by simp)
    have hlen := len_of h2 hx.1 hx.2.2.2
    rw [hd]
    by_cases h0 : n = 0
    · subst h0; rw [take_zero]; simp
    · rw [if_neg h0, List.foldl_cons]
      have ha : ∀ y ∈ m, y.2 < x.1 := fun y hy => by have := hm y hy; omega
      by_cases hlt : n < len x
      · rw [if_pos hlt]
        have e : take1 (m, n) x = (m ++ [(x.1, x.1 + n)], 0) := by
          unfold take1
          simp only [show min n (len x) = n by omega]
          rw [join_apart (by simp; omega) (by simpa using ha), Nat.sub_self]
        rw [e, take_zero]
      · rw [if_neg hlt]
        have e : take1 (m, n) x = (m ++ [x], n - len x) := by
          unfold take1
          simp only [show min n (len x) = len x by omega]
          rw [join_apart (by simp; omega) (by simpa using ha)]
          congr 3
          refine Prod.ext rfl ?_
          simp; omega
        rw [e, take_from (lo := x.2) h3 (fun y hy => hi y (by simp [hy]))]
        · simp
        · intro y hy
          rcases List.mem_append.1 hy with hy | hy
          · have := hm y hy; omega
          · simp at hy; subst hy; exact Int.le_refl _
theorem take_hd {s : List R} (n : Nat) (h : Canon s) (hi : In64 s) : (s.foldl take1 ([], n)).1 = hd s n := by
  obtain ⟨lo, h⟩ := h
  rw [take_from h hi (by simp), List.nil_append]
theorem take_length : ∀ (s : List R) (p : List R × Nat), (s.foldl take1 p).1.length ≤ p.1.length + s.length
  | [], p => by simp
  | x :: s, p => by have := take_length s (take1 p x); have := join_length p.1 (x.1, x.1 + (min p.2 (len x) : Nat)); simp [take1] at *; omega
theorem hd_length : ∀ (s : List R) (n : Nat), (hd s n).length ≤ s.length
  | [], n => by simp [hd]
  | x :: s, n => by
    rw [hd]; split
    · simp
    · split
      · simp
      · have := hd_length s (n - len x); simp; omega

theorem ins2_in : ∀ {l : List R} {r : R}, In64 l → In64 [r] → In64 (ins2 l r)
  | [], r, _, h => h
  | x :: l, r, hl, hr => by
    have hx := hl x (by simp)
    have hr' := hr r (by simp)
    rw [ins2]; split
    · exact ins2_in (fun y hy => hl y (by simp [hy])) (fun y hy => by simp at hy; subst hy; simp; omega)
    · intro y hy
      rcases List.mem_cons.1 hy with rfl | hy
      · exact hr'
      · exact hl y hy
theorem ins1_in : ∀ {l : List R} {r : R}, In64 l → In64 [r] → In64 (ins1 l r)
  | [], r, _, h => h
  | x :: l, r, hl, hr => by
    rw [ins1]; split
    · intro y hy
      rcases List.mem_cons.1 hy with rfl | hy
      · exact hl y (by simp)
      · exact ins1_in (l := l) (fun z hz => hl z (by simp [hz])) hr y hy
    · exact ins2_in hl hr
theorem inss_in : ∀ {s v : List R}, In64 v → In64 s → In64 (s.foldl ins v)
  | [], v, hv, _ => hv
  | r :: s, v, hv, hs => by
    rw [List.foldl_cons]
    refine inss_in ?_ (fun y hy => hs y (by simp [hy]))
    unfold ins; split
    · exact hv
    · exact ins1_in hv (fun y hy => by simp at hy; subst hy; exact hs y (by simp))
theorem nrm_in {l : List R} (h : In64 l) : In64 (nrm l) := inss_in (by simp [In64]) h
end Go.Proofs.Ytaaikmncdgfkmaa.Rng
