/-
  Package files, the mathematics: names (lists of bytes), files as a list that ascends by name; get, del, put; what Put answers; the reference's way (find, take, drop) is the same. No dump is imported.
-/
import Derived.Test.YtbeekfbcflmemaaBytes
import Derived.WideAt
import Derived.WideShapes
namespace Go.Proofs.Ytbeekfbcflmemaa.Fil

abbrev Nm := List UInt8
abbrev F := Nm × List Byte
/-- 'a stands before b' -/
def lt (a b : Nm) : Bool := bytesBefore a b
theorem lt_irrefl (a : Nm) : lt a a = false := WideAt.bytes_irrefl a
theorem lt_trans {a b c : Nm} (h : lt a b = true) (k : lt b c = true) : lt a c = true := WideShapes.bytes_trans a b c h k
theorem lt_total {a b : Nm} (h : a ≠ b) : lt a b = true ∨ lt b a = true := WideAt.bytes_total a b h
theorem lt_ne {a b : Nm} (h : lt a b = true) : a ≠ b := fun e => by rw [e, lt_irrefl] at h; cases h
theorem lt_not {a b : Nm} (h : lt a b = true) : lt b a = false := by
  cases k : lt b a
  · rfl
  · have := lt_trans h k; rw [lt_irrefl] at this; cases this

section
variable {α : Type}
def Srt (L : List (Nm × α)) : Prop := L.Pairwise fun p q => lt p.1 q.1 = true
def get (n : Nm) (L : List (Nm × α)) : Option α := (L.find? fun p => p.1 == n).map (·.2)
def del (n : Nm) (L : List (Nm × α)) : List (Nm × α) := L.filter fun p => p.1 != n
def ins (n : Nm) (d : α) : List (Nm × α) → List (Nm × α)
  | [] => [(n, d)]
  | y :: r => if lt n y.1 then (n, d) :: y :: r else y :: ins n d r
def put (n : Nm) (d : α) (L : List (Nm × α)) : List (Nm × α) := ins n d (del n L)

theorem mem_ins {n : Nm} {d : α} : ∀ {L : List (Nm × α)} {p : Nm × α}, p ∈ ins n d L ↔ p = (n, d) ∨ p ∈ L
  | [], p => by simp [ins]
  | y :: r, p => by
    unfold ins
    split
    · simp
    · simp only [List.mem_cons, mem_ins (L := r)]
      constructor
      · rintro (h | h | h)
        · exact .inr (.inl h)
        · exact .inl h
        · exact .inr (.inr h)
      · rintro (h | h | h)
        · exact .inr (.inl h)
        · exact .inl h
        · exact .inr (.inr h)
theorem ins_len {n : Nm} {d : α} : ∀ {L : List (Nm × α)}, (ins n d L).length = L.length + 1
  | [] => rfl
  | y :: r => by
    unfold ins
    split
    · rfl
    · rw [List.length_cons, ins_len, List.length_cons]
theorem Srt.del {L : List (Nm × α)} (h : Srt L) (n : Nm) : Srt (del n L) := List.Pairwise.sublist List.filter_sublist h
theorem mem_del {n : Nm} {L : List (Nm × α)} {p : Nm × α} : p ∈ del n L ↔ p ∈ L ∧ p.1 ≠ n := by simp [del]
theorem del_none {n : Nm} {L : List (Nm × α)} : get n (del n L) = none := by
  unfold get
  rw [List.find?_eq_none.2 (fun p hp => by have := (mem_del.1 hp).2; simpa using this)]
  rfl
theorem get_none {n : Nm} {L : List (Nm × α)} (h : get n L = none) : ∀ p ∈ L, p.1 ≠ n := by
  unfold get at h
  rw [Option.map_eq_none_iff, List.find?_eq_none] at h
  intro p hp e
  exact h p hp (by simp [e])
theorem get_some {n : Nm} {L : List (Nm × α)} {d : α} (h : get n L = some d) : (n, d) ∈ L := by
  unfold get at h
  rw [Option.map_eq_some_iff] at h
  obtain ⟨p, hp, rfl⟩ := h
  have h1 := List.find?_some hp
  have h2 := List.mem_of_find?_eq_some hp
  simp only [beq_iff_eq] at h1
  rw [← h1]
  exact h2
theorem Srt.inj {L : List (Nm × α)} (h : Srt L) {p q : Nm × α} (hp : p ∈ L) (hq : q ∈ L) (e : p.1 = q.1) : p = q := by
  rcases Classical.em (p = q) with h1 | h1
  · exact h1
  · exfalso
    have key : ∀ {L : List (Nm × α)}, Srt L → p ∈ L → q ∈ L → p.1 = q.1 → p ≠ q → False := by
      intro L
      induction L with
      | nil => intro _ hp; cases hp
      | cons x r ih =>
        intro h hp hq e h1
        obtain ⟨h2, h3⟩ := List.pairwise_cons.1 h
        rcases List.mem_cons.1 hp with k1 | k1
        · rcases List.mem_cons.1 hq with k2 | k2
          · exact h1 (k1.trans k2.symm)
          · exact lt_ne (h2 q k2) (by rw [← k1]; exact e)
        · rcases List.mem_cons.1 hq with k2 | k2
          · exact lt_ne (h2 p k1) (by rw [← k2]; exact e.symm)
          · exact ih h3 k1 k2 e h1
    exact key h hp hq e h1
theorem Srt.get {L : List (Nm × α)} (h : Srt L) {n : Nm} {d : α} (hm : (n, d) ∈ L) : get n L = some d := by
  cases hg : Fil.get n L with
  | none => exact absurd rfl (get_none hg _ hm)
  | some e =>
    have := h.inj (get_some hg) hm rfl
    cases this
    rfl
theorem Srt.ins {n : Nm} {d : α} : ∀ {L : List (Nm × α)}, Srt L → (∀ p ∈ L, p.1 ≠ n) → Srt (ins n d L)
  | [], _, _ => by simp [Fil.ins, Srt]
  | y :: r, h, hn => by
    obtain ⟨h2, h3⟩ := List.pairwise_cons.1 h
    unfold Fil.ins
    split
    · rename_i hl
      refine List.pairwise_cons.2 ⟨fun q hq => ?_, h⟩
      rcases List.mem_cons.1 hq with rfl | hq
      · exact hl
      · exact lt_trans hl (h2 q hq)
    · rename_i hl
      refine List.pairwise_cons.2 ⟨fun q hq => ?_, Srt.ins h3 fun p hp => hn p (List.mem_cons_of_mem _ hp)⟩
      rcases mem_ins.1 hq with rfl | hq
      · rcases lt_total (hn y (List.mem_cons_self)) with h4 | h4
        · exact h4
        · exact absurd h4 hl
      · exact h2 q hq
theorem Srt.put {L : List (Nm × α)} (h : Srt L) (n : Nm) (d : α) : Srt (put n d L) := (h.del n).ins fun _ hp => (mem_del.1 hp).2
theorem mem_put {n : Nm} {d : α} {L : List (Nm × α)} {p : Nm × α} : p ∈ put n d L ↔ p = (n, d) ∨ (p ∈ L ∧ p.1 ≠ n) := by
  unfold put; rw [mem_ins, mem_del]
theorem get_put {L : List (Nm × α)} (h : Srt L) (n : Nm) (d : α) : get n (put n d L) = some d := (h.put n d).get (mem_put.2 (.inl rfl))
theorem get_put_other {L : List (Nm × α)} (h : Srt L) {n m : Nm} (d : α) (hne : m ≠ n) : get m (put n d L) = get m L := by
  cases hg : get m L with
  | none =>
    cases hp : get m (put n d L) with
    | none => rfl
    | some e =>
      rcases mem_put.1 (get_some hp) with h1 | h1
      · cases h1; exact absurd rfl hne
      · exact absurd rfl (get_none hg _ h1.1)
  | some e => exact (h.put n d).get (mem_put.2 (.inr ⟨get_some hg, hne⟩))
theorem get_del_other {L : List (Nm × α)} (h : Srt L) {n m : Nm} (hne : m ≠ n) : get m (del n L) = get m L := by
  cases hg : get m L with
  | none =>
    cases hp : get m (del n L) with
    | none => rfl
    | some e => exact absurd rfl (get_none hg _ (mem_del.1 (get_some hp)).1)
  | some e => exact (h.del n).get (mem_del.2 ⟨get_some hg, hne⟩)
theorem del_same {n : Nm} {L : List (Nm × α)} (h : get n L = none) : del n L = L := List.filter_eq_self.2 fun p hp => by simpa using get_none h p hp

/-! ### the reference's way -/
/-- the index of the first file whose name does not stand before n -/
def fnd (n : Nm) (L : List (Nm × α)) : Nat := (L.takeWhile fun p => lt p.1 n).length
theorem fnd_le (n : Nm) (L : List (Nm × α)) : fnd n L ≤ L.length := (List.takeWhile_prefix _).length_le
theorem take_fnd (n : Nm) : ∀ (L : List (Nm × α)), L.take (fnd n L) = L.takeWhile fun p => lt p.1 n
  | [] => rfl
  | y :: r => by
    unfold fnd
    rw [List.takeWhile_cons]
    split
    · rw [List.length_cons, List.take_succ_cons]; congr 1; exact take_fnd n r
    · rfl
theorem drop_fnd (n : Nm) : ∀ (L : List (Nm × α)), L.drop (fnd n L) = L.dropWhile fun p => lt p.1 n
  | [] => rfl
  | y :: r => by
    unfold fnd
    rw [List.takeWhile_cons, List.dropWhile_cons]
    split
    · rw [List.length_cons, List.drop_succ_cons]; exact drop_fnd n r
    · rfl
theorem fnd_lt {n : Nm} {L : List (Nm × α)} {k : Nat} (h : ∀ i < k, ∀ p, L[i]? = some p → lt p.1 n = true) (hk : k ≤ L.length) (he : ∀ p, L[k]? = some p → lt p.1 n = false) : fnd n L = k := by
  induction L generalizing k with
  | nil => simp at hk; subst hk; rfl
  | cons y r ih =>
    unfold fnd
    rw [List.takeWhile_cons]
    cases k with
    | zero => rw [he y rfl]; rfl
    | succ k =>
      rw [h 0 (by omega) y rfl]
      simp only [if_true, List.length_cons]
      congr 1
      exact ih (fun i hi p hp => h (i + 1) (by omega) p (by simpa using hp)) (by simpa using hk) fun p hp => he p (by simpa using hp)
/-- what stands at that index -/
theorem Srt.at_ {n : Nm} : ∀ {L : List (Nm × α)}, Srt L → (∀ d, (Fil.get n L = some d ↔ L[fnd n L]? = some (n, d)))
  | [], _ => by simp [Fil.get]
  | y :: r, h => by
    intro d
    obtain ⟨h2, h3⟩ := List.pairwise_cons.1 h
    unfold fnd
    rw [List.takeWhile_cons]
    rcases Classical.em (lt y.1 n = true) with hl | hl
    · rw [hl]
      simp only [if_true, List.length_cons, List.getElem?_cons_succ]
      have : Fil.get n (y :: r) = Fil.get n r := by
        unfold Fil.get
        have e : (y.1 == n) = false := by simpa using lt_ne hl
        rw [List.find?_cons, e]
      rw [this]
      exact Srt.at_ h3 d
    · have e : lt y.1 n = false := by cases k : lt y.1 n <;> simp_all
      rw [e]
      simp only [Bool.false_eq_true, if_false, List.length_nil, List.getElem?_cons_zero]
      constructor
      · intro hg
        have hm := get_some hg
        rcases List.mem_cons.1 hm with h1 | h1
        · rw [h1]
        · have := h2 _ h1
          rw [e] at this
          cases this
      · intro hg
        injection hg with hg
        subst hg
        exact h.get (List.mem_cons_self)
theorem Srt.no {n : Nm} {L : List (Nm × α)} (hg : Fil.get n L = none) : ∀ p, L[fnd n L]? = some p → p.1 ≠ n := by
  intro p hp
  exact get_none hg p (List.mem_of_getElem? hp)
/-- Delete -/
theorem Srt.cut {n : Nm} : ∀ {L : List (Nm × α)}, Srt L → ∀ {d : α}, Fil.get n L = some d → L.take (fnd n L) ++ L.drop (fnd n L + 1) = Fil.del n L
  | [], _, d, hg => by simp [Fil.get] at hg
  | y :: r, h, d, hg => by
    obtain ⟨h2, h3⟩ := List.pairwise_cons.1 h
    unfold fnd
    rw [List.takeWhile_cons]
    rcases Classical.em (lt y.1 n = true) with hl | hl
    · rw [hl]
      simp only [if_true, List.length_cons, List.take_succ_cons, List.drop_succ_cons, List.cons_append]
      have e : (y.1 == n) = false := by simpa using lt_ne hl
      have : Fil.get n r = some d := by
        unfold Fil.get at hg ⊢
        rw [List.find?_cons, e] at hg
        exact hg
      have ih := Srt.cut h3 this
      unfold fnd at ih
      unfold Fil.del at ih ⊢
      rw [ih, List.filter_cons, if_pos (by simpa using lt_ne hl)]
    · have e : lt y.1 n = false := by cases k : lt y.1 n <;> simp_all
      rw [e]
      simp only [Bool.false_eq_true, if_false, List.length_nil, List.take_zero, List.nil_append, Nat.zero_add, List.drop_succ_cons, List.drop_zero]
      have hy : y.1 = n := by
        rcases List.mem_cons.1 (get_some hg) with h1 | h1
        · rw [← h1]
        · have := h2 _ h1; rw [e] at this; cases this
      unfold Fil.del
      rw [List.filter_cons, if_neg (by simp [hy])]
      refine (List.filter_eq_self.2 fun p hp => ?_).symm
      have := lt_ne (h2 p hp)
      rw [hy] at this
      simpa using this.symm
/-- Put -/
theorem Srt.mid {n : Nm} {d : α} : ∀ {L : List (Nm × α)}, Srt L → (∀ p ∈ L, p.1 ≠ n) → L.take (fnd n L) ++ [(n, d)] ++ L.drop (fnd n L) = Fil.ins n d L
  | [], _, _ => rfl
  | y :: r, h, hn => by
    obtain ⟨h2, h3⟩ := List.pairwise_cons.1 h
    unfold fnd
    rw [List.takeWhile_cons]
    rcases Classical.em (lt y.1 n = true) with hl | hl
    · rw [hl]
      simp only [if_true, List.length_cons, List.take_succ_cons, List.drop_succ_cons, List.cons_append]
      have ih := Srt.mid (d := d) h3 fun p hp => hn p (List.mem_cons_of_mem _ hp)
      unfold fnd at ih
      unfold Fil.ins
      rw [if_neg (by rw [lt_not hl]; simp), ← ih]
    · have e : lt y.1 n = false := by cases k : lt y.1 n <;> simp_all
      have e2 : lt n y.1 = true := (lt_total (hn y List.mem_cons_self)).elim (fun k => absurd k hl) id
      rw [e]
      unfold Fil.ins
      rw [if_pos e2]
      rfl
end

/-! ### names, sizes, what Put answers -/
def nch (x : UInt8) : Bool := decide (33 ≤ x.toNat ∧ x.toNat ≤ 126)
def okN (n : Nm) : Bool := decide (1 ≤ n.length) && decide (n.length ≤ 64) && n.all nch
def sz (L : List F) : Nat := (L.map fun p => p.2.length).sum
theorem sz_ins {n : Nm} {d : List Byte} : ∀ {L : List F}, sz (ins n d L) = sz L + d.length
  | [] => by simp [sz, ins]
  | y :: r => by
    unfold ins
    split
    · simp [sz]; omega
    · have := sz_ins (n := n) (d := d) (L := r)
      simp only [sz, List.map_cons, List.sum_cons] at this ⊢
      omega
theorem sz_del {n : Nm} : ∀ {L : List F}, Srt L → sz (del n L) + ((get n L).getD []).length = sz L
  | [], _ => by simp [sz, del, get]
  | y :: r, h => by
    obtain ⟨h2, h3⟩ := List.pairwise_cons.1 h
    have ih := sz_del (n := n) h3
    rcases Classical.em (y.1 = n) with e | e
    · have hd : del n (y :: r) = r := by
        unfold del
        rw [List.filter_cons, if_neg (by simp [e])]
        refine List.filter_eq_self.2 fun p hp => ?_
        have := lt_ne (h2 p hp)
        rw [e] at this
        simpa using this.symm
      have hg : get n (y :: r) = some y.2 := h.get (by rw [← e]; exact List.mem_cons_self)
      rw [hd, hg]
      simp [sz]; omega
    · have hd : del n (y :: r) = y :: del n r := by
        unfold del
        rw [List.filter_cons, if_pos (by simpa using e)]
      have hg : get n (y :: r) = get n r := by
        unfold get
        have e2 : (y.1 == n) = false := by simpa using e
        rw [List.find?_cons, e2]
      rw [hd, hg]
      simp only [sz, List.map_cons, List.sum_cons] at ih ⊢
      omega
theorem del_len {α : Type} {n : Nm} : ∀ {L : List (Nm × α)}, Srt L → (del n L).length + (if (get n L).isSome then 1 else 0) = L.length
  | [], _ => by simp [del, get]
  | y :: r, h => by
    obtain ⟨h2, h3⟩ := List.pairwise_cons.1 h
    have ih := del_len (n := n) h3
    rcases Classical.em (y.1 = n) with e | e
    · have hd : del n (y :: r) = r := by
        unfold del
        rw [List.filter_cons, if_neg (by simp [e])]
        refine List.filter_eq_self.2 fun p hp => ?_
        have := lt_ne (h2 p hp)
        rw [e] at this
        simpa using this.symm
      have hg : get n (y :: r) = some y.2 := h.get (by rw [← e]; exact List.mem_cons_self)
      rw [hd, hg]
      simp
    · have hd : del n (y :: r) = y :: del n r := by
        unfold del
        rw [List.filter_cons, if_pos (by simpa using e)]
      have hg : get n (y :: r) = get n r := by
        unfold get
        have e2 : (y.1 == n) = false := by simpa using e
        rw [List.find?_cons, e2]
      rw [hd, hg, List.length_cons, List.length_cons]
      omega
/-- a store: how many files, how many bytes, the files -/
structure St where
  most : Nat
  room : Nat
  l : List F
structure St.Ok (s : St) : Prop where
  srt : Srt s.l
  cnt : s.l.length ≤ s.most
  sum : sz s.l ≤ s.room
  ns : ∀ p ∈ s.l, okN p.1 = true
  m : s.most ≤ 256
  r : s.room ≤ 2147483648
def clp (x : Int) (m : Nat) : Nat := (min (max x 0) (m : Int)).toNat
def s0 (most room : Int) : St := ⟨clp most 256, clp room 2147483648, []⟩
theorem clp_le (x : Int) (m : Nat) : clp x m ≤ m := by unfold clp; omega
theorem s0_ok (most room : Int) : (s0 most room).Ok := ⟨List.Pairwise.nil, Nat.zero_le _, Nat.zero_le _, by simp [s0], clp_le _ _, clp_le _ _⟩
/-- is there room for a file? -/
def fits (s : St) (n : Nm) (k : Nat) : Bool := !((get n s.l).isNone && decide (s.most ≤ s.l.length)) && decide (sz s.l + k ≤ s.room + ((get n s.l).getD []).length)
/-- Put -/
def puE (s : St) (n : Nm) (d : List Byte) : Nat := if okN n then if 65536 < d.length then 6 else if fits s n d.length then 0 else 7 else 1
def puS (s : St) (n : Nm) (d : List Byte) : St := if puE s n d = 0 then ⟨s.most, s.room, put n d s.l⟩ else s
/-- Get, Delete -/
def geE (s : St) (n : Nm) : Nat := if okN n then if (get n s.l).isSome then 0 else 8 else 1
def geD (s : St) (n : Nm) : List Byte := if okN n then (get n s.l).getD [] else []
def deS (s : St) (n : Nm) : St := if geE s n = 0 then ⟨s.most, s.room, del n s.l⟩ else s
theorem puE_zero {s : St} {n : Nm} {d : List Byte} (h : puE s n d = 0) : okN n = true ∧ d.length ≤ 65536 ∧ fits s n d.length = true := by
  unfold puE at h
  split at h
  · rename_i h1
    split at h
    · cases h
    · split at h
      · rename_i h2 h3; exact ⟨h1, by omega, h3⟩
      · cases h
  · cases h
theorem St.Ok.put {s : St} (h : s.Ok) (n : Nm) (d : List Byte) : (puS s n d).Ok := by
  unfold puS
  split
  · rename_i he
    obtain ⟨h1, h2, h3⟩ := puE_zero he
    have hs := sz_del (n := n) h.srt
    have hc := del_len (n := n) h.srt
    have hm := h.cnt
    unfold fits at h3
    simp only [Bool.and_eq_true, decide_eq_true_eq, Bool.not_eq_true', Bool.and_eq_false_imp] at h3
    refine ⟨h.srt.put n d, ?_, ?_, fun p hp => ?_, h.m, h.r⟩
    · show (Fil.put n d s.l).length ≤ s.most
      unfold Fil.put
      rw [ins_len]
      cases hg : Fil.get n s.l with
      | none =>
        rw [hg] at hc h3
        have := h3.1 rfl
        simp at this hc
        omega
      | some e => rw [hg] at hc; simp at hc; omega
    · show sz (Fil.put n d s.l) ≤ s.room
      unfold Fil.put
      rw [sz_ins]
      have := h3.2
      omega
    · rcases mem_put.1 hp with rfl | hp
      · exact h1
      · exact h.ns p hp.1
  · exact h
theorem St.Ok.dele {s : St} (h : s.Ok) (n : Nm) : (deS s n).Ok := by
  unfold deS
  split
  · have hs := sz_del (n := n) h.srt
    have hc := del_len (n := n) h.srt
    refine ⟨h.srt.del n, ?_, ?_, fun p hp => h.ns p (mem_del.1 hp).1, h.m, h.r⟩
    · show (Fil.del n s.l).length ≤ s.most
      have := h.cnt; omega
    · show sz (Fil.del n s.l) ≤ s.room
      have := h.sum; omega
  · exact h
/-- the reference asks of the store without the file -/
theorem fits_ref {s : St} (h : s.Ok) (n : Nm) (k : Nat) : fits s n k = (!decide (s.most ≤ (del n s.l).length) && decide (sz (del n s.l) + k ≤ s.room)) := by
  have hs := sz_del (n := n) h.srt
  have hc := del_len (n := n) h.srt
  have hm := h.cnt
  unfold fits
  cases hg : get n s.l with
  | none =>
    rw [del_same hg]
    simp
  | some e =>
    rw [hg] at hs hc
    simp only [Option.getD_some, Option.isSome_some, if_true] at hs hc
    have e1 : decide (s.most ≤ (del n s.l).length) = false := decide_eq_false (by omega)
    rw [e1]
    simp only [Option.isNone_some, Bool.false_and, Bool.not_false, Bool.true_and, Option.getD_some]
    congr 1
    exact propext (by omega)
theorem get_names {s : St} (h : s.Ok) {n : Nm} (hn : okN n = false) : get n s.l = none := by
  cases hg : get n s.l with
  | none => rfl
  | some d => have := h.ns _ (get_some hg); rw [hn] at this; cases this
end Go.Proofs.Ytbeekfbcflmemaa.Fil
