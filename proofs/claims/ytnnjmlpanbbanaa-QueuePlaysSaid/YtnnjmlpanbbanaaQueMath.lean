/-
  A priority queue as a list of (priority, item) in the order in which they leave: plain mathematics, no dump.
-/
import Derived.Test.YtnnjmlpanbbanaaRngMath
namespace Go.Proofs.Ytnnjmlpanbbanaa.Rng.Que

/-- x before the first that has a greater priority -/
def ins (x : R) : List R → List R
  | [] => [x]
  | y :: l => if x.1 < y.1 then x :: y :: l else y :: ins x l
/-- the first entry of an item left out -/
def rm (i : Int) : List R → List R
  | [] => []
  | y :: l => if y.2 = i then l else y :: rm i l
def hasI (i : Int) (l : List R) : Bool := l.any fun y => y.2 == i
def itm (l : List R) : List Int := l.map Prod.snd

theorem hasI_iff {i : Int} {l : List R} : hasI i l = true ↔ ∃ y ∈ l, y.2 = i := by simp [hasI]
theorem hasI_false {i : Int} {l : List R} : hasI i l = false ↔ ∀ y ∈ l, y.2 ≠ i := by simp [hasI]
theorem itm_length (l : List R) : (itm l).length = l.length := by simp [itm]
theorem itm_at {l : List R} {i : Nat} {y : R} (h : l[i]? = some y) : (itm l)[i]? = some y.2 := by simp [itm, h]

theorem ins_length (x : R) : ∀ l, (ins x l).length = l.length + 1
  | [] => rfl
  | y :: l => by unfold ins; split <;> simp [ins_length x l]
theorem ins_mem {x z : R} : ∀ {l : List R}, z ∈ ins x l ↔ z = x ∨ z ∈ l
  | [] => by simp [ins]
  | y :: l => by
    unfold ins; split
    · simp
    · simp [ins_mem (l := l)]; constructor <;> (rintro (h | h | h) <;> simp [h])
theorem rm_mem_of {i : Int} {z : R} : ∀ {l : List R}, z ∈ rm i l → z ∈ l
  | [], h => by simp [rm] at h
  | y :: l, h => by
    unfold rm at h; split at h
    · exact List.mem_cons_of_mem _ h
    · rcases List.mem_cons.1 h with rfl | h
      · simp
      · exact List.mem_cons_of_mem _ (rm_mem_of h)
theorem rm_length {i : Int} : ∀ {l : List R}, hasI i l = true → (rm i l).length + 1 = l.length
  | [], h => by simp [hasI] at h
  | y :: l, h => by
    unfold rm; split
    · simp
    · next hy =>
      have : hasI i l = true := by simpa [hasI, hy] using h
      simp [rm_length this]

/-- the program's way: the first index whose priority is greater -/
theorem ins_at {x : R} : ∀ {l : List R} {k : Nat} (hk : k < l.length), x.1 < l[k].1 → (∀ j (h : j < k), ¬ x.1 < (l[j]'(by omega)).1) → ins x l = l.take k ++ x :: l.drop k
  | [], k, hk, _, _ => by simp at hk
  | y :: l, 0, _, h, _ => by simp at h; simp [ins, h]
  | y :: l, k + 1, hk, h, hb => by
    have h0 : ¬ x.1 < y.1 := hb 0 (by omega)
    have := ins_at (x := x) (l := l) (k := k) (by simpa using hk) (by simpa using h) (fun j hj => by simpa using hb (j + 1) (by omega))
    simp [ins, h0, this]
theorem ins_end {x : R} : ∀ {l : List R}, (∀ y ∈ l, ¬ x.1 < y.1) → ins x l = l ++ [x]
  | [], _ => rfl
  | y :: l, h => by
    have h0 := h y (by simp)
    simp [ins, h0, ins_end (l := l) fun z hz => h z (by simp [hz])]
theorem rm_at {i : Int} : ∀ {l : List R} {k : Nat} (hk : k < l.length), l[k].2 = i → (∀ j (h : j < k), (l[j]'(by omega)).2 ≠ i) → rm i l = l.take k ++ l.drop (k + 1)
  | [], k, hk, _, _ => by simp at hk
  | y :: l, 0, _, h, _ => by simp at h; simp [rm, h]
  | y :: l, k + 1, hk, h, hb => by
    have h0 : y.2 ≠ i := hb 0 (by omega)
    have := rm_at (i := i) (l := l) (k := k) (by simpa using hk) (by simpa using h) (fun j hj => by simpa using hb (j + 1) (by omega))
    simp [rm, h0, this]
theorem rm_head (y : R) (l : List R) : rm y.2 (y :: l) = l := by simp [rm]

/-! ### the answers -/
/-- what Push makes of a state -/
def pushed (cap : Nat) (x : R) (l : List R) : List R := if hasI x.2 l then l else if cap ≤ l.length then l else ins x l
def removed (i : Int) (l : List R) : List R := if hasI i l then rm i l else l
theorem rm_none {i : Int} : ∀ {l : List R}, hasI i l = false → rm i l = l
  | [], _ => rfl
  | y :: l, h => by
    have h0 : y.2 ≠ i := hasI_false.1 h y (by simp)
    have : hasI i l = false := hasI_false.2 fun z hz => hasI_false.1 h z (by simp [hz])
    simp [rm, h0, rm_none this]
theorem pushed_length {cap : Nat} {x : R} {l : List R} (h : l.length ≤ cap) : (pushed cap x l).length ≤ cap := by
  unfold pushed; split
  · exact h
  · split
    · exact h
    · rw [ins_length]; omega
theorem rm_le {i : Int} : ∀ {l : List R}, (rm i l).length ≤ l.length
  | [] => by simp [rm]
  | y :: l => by
    unfold rm; split
    · simp
    · simpa using rm_le (l := l)

def pushE (cap : Nat) (x : R) (L : List R) : Int := if hasI x.2 L then 9 else if cap ≤ L.length then 7 else 0
def hdI (L : List R) : Int := ((L.head?.map Prod.snd)).getD 0
def okI (L : List R) : Bool := decide (0 < L.length)

/-! ### the order -/
/-- by priority, and by item within a priority -/
def Lex (l : List R) : Prop := l.Pairwise fun a b => a.1 < b.1 ∨ (a.1 = b.1 ∧ a.2 < b.2)
/-- by priority alone -/
def Srt (l : List R) : Prop := l.Pairwise fun a b => a.1 ≤ b.1
def Nod (l : List R) : Prop := l.Pairwise fun a b => a.2 ≠ b.2

theorem Lex.srt {l : List R} (h : Lex l) : Srt l := h.imp fun h => by omega
theorem ins_lex {x : R} : ∀ {l : List R}, Lex l → (∀ y ∈ l, y.2 < x.2) → Lex (ins x l)
  | [], _, _ => by simp [ins, Lex]
  | y :: l, h, hb => by
    have ⟨h1, h2⟩ := List.pairwise_cons.1 h
    unfold ins; split
    · next hlt =>
      refine List.pairwise_cons.2 ⟨fun z hz => .inl ?_, h⟩
      rcases List.mem_cons.1 hz with rfl | hz
      · exact hlt
      · have := h1 z hz; omega
    · next hlt =>
      refine List.pairwise_cons.2 ⟨fun z hz => ?_, ins_lex h2 fun z hz => hb z (by simp [hz])⟩
      rcases ins_mem.1 hz with rfl | hz
      · have := hb y (by simp); omega
      · exact h1 z hz
theorem ins_srt {x : R} : ∀ {l : List R}, Srt l → Srt (ins x l)
  | [], _ => by simp [ins, Srt]
  | y :: l, h => by
    have ⟨h1, h2⟩ := List.pairwise_cons.1 h
    unfold ins; split
    · next hlt =>
      refine List.pairwise_cons.2 ⟨fun z hz => ?_, h⟩
      rcases List.mem_cons.1 hz with rfl | hz
      · omega
      · have := h1 z hz; omega
    · next hlt =>
      refine List.pairwise_cons.2 ⟨fun z hz => ?_, ins_srt h2⟩
      rcases ins_mem.1 hz with rfl | hz
      · omega
      · exact h1 z hz
theorem rm_srt {i : Int} : ∀ {l : List R}, Srt l → Srt (rm i l)
  | [], _ => by simp [rm, Srt]
  | y :: l, h => by
    have ⟨h1, h2⟩ := List.pairwise_cons.1 h
    unfold rm; split
    · exact h2
    · exact List.pairwise_cons.2 ⟨fun z hz => h1 z (rm_mem_of hz), rm_srt h2⟩
theorem ins_nod {x : R} : ∀ {l : List R}, Nod l → hasI x.2 l = false → Nod (ins x l)
  | [], _, _ => by simp [ins, Nod]
  | y :: l, h, hx => by
    have ⟨h1, h2⟩ := List.pairwise_cons.1 h
    have hy : y.2 ≠ x.2 := hasI_false.1 hx y (by simp)
    have hl : hasI x.2 l = false := hasI_false.2 fun z hz => hasI_false.1 hx z (by simp [hz])
    unfold ins; split
    · refine List.pairwise_cons.2 ⟨fun z hz => ?_, h⟩
      exact fun e => hasI_false.1 hx z hz e.symm
    · refine List.pairwise_cons.2 ⟨fun z hz => ?_, ins_nod h2 hl⟩
      rcases ins_mem.1 hz with rfl | hz
      · exact hy
      · exact h1 z hz
theorem rm_nod_has {i : Int} : ∀ {l : List R}, Nod l → hasI i (rm i l) = false
  | [], _ => by simp [rm, hasI]
  | y :: l, h => by
    have ⟨h1, h2⟩ := List.pairwise_cons.1 h
    unfold rm; split
    · next hy => exact hasI_false.2 fun z hz e => h1 z hz (hy.trans e.symm)
    · next hy =>
      refine hasI_false.2 fun z hz => ?_
      rcases List.mem_cons.1 hz with rfl | hz
      · exact hy
      · exact hasI_false.1 (rm_nod_has h2) z hz
/-- the others keep their order -/
theorem itm_rm {i : Int} : ∀ {l : List R}, Nod l → itm (rm i l) = (itm l).filter (fun a => a != i)
  | [], _ => rfl
  | y :: l, h => by
    have ⟨h1, h2⟩ := List.pairwise_cons.1 h
    unfold rm; split
    · next hy =>
      have : (itm l).filter (fun a => a != i) = itm l := List.filter_eq_self.2 fun a ha => by
        obtain ⟨z, hz, rfl⟩ := List.mem_map.1 ha
        have := h1 z hz
        simp; intro e; exact this (hy.trans e.symm)
      rw [show itm (y :: l) = y.2 :: itm l from rfl, List.filter_cons, if_neg (by simp [hy]), this]
    · next hy =>
      rw [show itm (y :: rm i l) = y.2 :: itm (rm i l) from rfl, show itm (y :: l) = y.2 :: itm l from rfl, List.filter_cons, if_pos (by simp [hy]), itm_rm h2]
theorem itm_ins {x : R} : ∀ {l : List R}, hasI x.2 l = false → (itm (ins x l)).filter (fun a => a != x.2) = itm l
  | [], _ => by simp [ins, itm]
  | y :: l, h => by
    have hy : y.2 ≠ x.2 := hasI_false.1 h y (by simp)
    have hl : hasI x.2 l = false := hasI_false.2 fun z hz => hasI_false.1 h z (by simp [hz])
    have hs : (itm l).filter (fun a => a != x.2) = itm l := List.filter_eq_self.2 fun a ha => by
      obtain ⟨z, hz, rfl⟩ := List.mem_map.1 ha
      have := hasI_false.1 hl z hz
      simpa using this
    unfold ins; split
    · rw [show itm (x :: y :: l) = x.2 :: y.2 :: itm l from rfl, List.filter_cons, if_neg (by simp), List.filter_cons, if_pos (by simp [hy]), hs]; rfl
    · rw [show itm (y :: ins x l) = y.2 :: itm (ins x l) from rfl, List.filter_cons, if_pos (by simp [hy]), itm_ins hl]; rfl
/-- what stands behind x has a greater priority -/
theorem ins_behind {x : R} : ∀ {l : List R}, Srt l → hasI x.2 l = false → ∀ {i j : Nat} {a b : R}, (ins x l)[i]? = some a → a.2 = x.2 → i < j → (ins x l)[j]? = some b → x.1 < b.1
  | [], _, _, i, j, a, b, ha, _, hij, hb => by
    simp [ins] at hb
    have := (List.getElem?_eq_some_iff.1 hb).1
    simp at this; omega
  | y :: l, h, hx, i, j, a, b, ha, he, hij, hb => by
    have ⟨h1, h2⟩ := List.pairwise_cons.1 h
    have hy : y.2 ≠ x.2 := hasI_false.1 hx y (by simp)
    have hl : hasI x.2 l = false := hasI_false.2 fun z hz => hasI_false.1 hx z (by simp [hz])
    unfold ins at ha hb
    split at ha
    · next hlt =>
      rw [if_pos hlt] at hb
      cases j with
      | zero => omega
      | succ j =>
        have hb' : b ∈ y :: l := List.mem_of_getElem? (by simpa using hb)
        rcases List.mem_cons.1 hb' with rfl | hb'
        · exact hlt
        · have := h1 b hb'; omega
    · next hlt =>
      rw [if_neg hlt] at hb
      cases i with
      | zero =>
        simp at ha; subst ha
        exact absurd he hy
      | succ i =>
        cases j with
        | zero => omega
        | succ j => exact ins_behind h2 hl (i := i) (j := j) (by simpa using ha) he (by omega) (by simpa using hb)
end Go.Proofs.Ytnnjmlpanbbanaa.Rng.Que
