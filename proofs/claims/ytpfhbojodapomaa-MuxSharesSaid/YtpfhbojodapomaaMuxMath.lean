/-
  Plain mathematics of a multiplexer of virtual channels: its channels with their credits, the one that is selected, how often each is; no Go in sight.
-/
import Derived.Lib.Hide
namespace Go.Proofs.Ytpfhbojodapomaa.Mux

/-- a channel: its number, priority, weight, credit, and how often it was selected -/
structure Ch where
  id : Int
  pr : Int
  wt : Int
  cr : Int
  sn : Int
deriving DecidableEq, Inhabited

def Ch.ok (x : Ch) : Prop := 0 ≤ x.id ∧ x.id ≤ 7 ∧ 0 ≤ x.pr ∧ x.pr ≤ 15 ∧ 1 ≤ x.wt ∧ x.wt ≤ 100
instance (x : Ch) : Decidable x.ok := by unfold Ch.ok; infer_instance
def ids (L : List Ch) : List Int := L.map Ch.id
/-- channels of which no two have one number -/
structure Good (L : List Ch) : Prop where
  ok : ∀ x ∈ L, x.ok
  nod : (ids L).Nodup
theorem Good.perm {L R : List Ch} (h : Good L) (p : R.Perm L) : Good R :=
  ⟨fun x hx => h.ok x (p.mem_iff.1 hx), (p.map Ch.id).nodup_iff.2 h.nod⟩
theorem Good.same {L : List Ch} (h : Good L) {x y : Ch} (hx : x ∈ L) (hy : y ∈ L) (e : x.id = y.id) : x = y := by
  have hn := h.nod
  clear h
  induction L with
  | nil => cases hx
  | cons z l ih =>
    simp only [ids, List.map_cons, List.nodup_cons] at hn
    rcases List.mem_cons.1 hx with rfl | hx'
    · rcases List.mem_cons.1 hy with rfl | hy'
      · rfl
      · exact absurd (e ▸ List.mem_map_of_mem hy') hn.1
    · rcases List.mem_cons.1 hy with rfl | hy'
      · exact absurd (e ▸ List.mem_map_of_mem hx') hn.1
      · exact ih hx' hy' hn.2
theorem nodup_bound : ∀ (n : Nat) (l : List Int), l.Nodup → (∀ x ∈ l, 0 ≤ x ∧ x < n) → l.length ≤ n
  | 0, l, _, hb => by
    cases l with
    | nil => simp
    | cons x l => have := hb x (by simp); omega
  | n + 1, l, hn, hb => by
    have h1 : (l.erase (n : Int)).length ≤ n := nodup_bound n _ (hn.erase _) fun x hx => by
      have h2 := hb x (List.mem_of_mem_erase hx)
      have h3 : x ≠ (n : Int) := fun e => by
        subst e
        exact (List.Nodup.not_mem_erase hn) hx
      omega
    have h4 := List.length_erase (a := (n : Int)) (l := l)
    split at h4 <;> omega
theorem Good.len {L : List Ch} (h : Good L) : L.length ≤ 8 := by
  have := nodup_bound 8 (ids L) h.nod fun x hx => by
    obtain ⟨y, hy, rfl⟩ := List.mem_map.1 hx
    obtain ⟨h1, h2, _⟩ := h.ok y hy
    omega
  simpa [ids] using this

/-! ### New -/
/-- what is wrong with a list of channels: 0 if nothing is, 1 a field, 9 a number that is there twice -/
def chk : List Ch → List Ch → Int
  | _, [] => 0
  | s, x :: l => if ¬ x.ok then 1 else if x.id ∈ ids s then 9 else chk (s ++ [x]) l
theorem chk_good : ∀ {l s : List Ch}, Good s → chk s l = 0 → Good (s ++ l)
  | [], s, hs, _ => by simpa using hs
  | x :: l, s, hs, h => by
    unfold chk at h
    split at h
    · cases h
    · split at h
      · cases h
      · next h1 h2 =>
        have h1 := Decidable.not_not.1 h1
        have := chk_good (l := l) (s := s ++ [x]) ⟨fun y hy => by
          rcases List.mem_append.1 hy with hy | hy
          · exact hs.ok y hy
          · rw [List.mem_singleton.1 hy]; exact h1, by
          unfold ids at h2 ⊢
          rw [List.map_append, List.nodup_append]
          refine ⟨hs.nod, by simp, fun a ha b hb e => h2 ?_⟩
          rw [List.map_cons, List.map_nil, List.mem_singleton] at hb
          rw [← hb, ← e]; exact ha⟩ h
        rwa [List.append_assoc] at this
theorem chk_bad {s l : List Ch} {x : Ch} (h : ¬ x.ok) : chk s (x :: l) = 1 := by unfold chk; rw [if_pos h]
theorem chk_twice {s l : List Ch} {x : Ch} (h : x.ok) (h2 : x.id ∈ ids s) : chk s (x :: l) = 9 := by unfold chk; rw [if_neg (fun k => k h), if_pos h2]
theorem chk_on {s l : List Ch} {x : Ch} (h : x.ok) (h2 : x.id ∉ ids s) : chk s (x :: l) = chk (s ++ [x]) l := by conv => lhs; unfold chk; rw [if_neg (fun k => k h), if_neg h2]

/-! ### Next -/
/-- whether x is among those with priority p that are ready -/
def el (rd : List Int) (p : Int) (x : Ch) : Bool := decide (x.id ∈ rd) && decide (x.pr = p)
/-- the sum of the weights of those -/
def ws (rd : List Int) (p : Int) : List Ch → Int
  | [] => 0
  | x :: l => (if el rd p x then x.wt else 0) + ws rd p l
/-- a channel behind the choice of the channel b -/
def up (rd : List Int) (p b s : Int) (x : Ch) : Ch :=
  if el rd p x then (if x.id = b then ⟨x.id, x.pr, x.wt, x.cr + x.wt - s, x.sn + 1⟩ else ⟨x.id, x.pr, x.wt, x.cr + x.wt, x.sn⟩) else x
/-- x is to be preferred to y -/
def pf (x y : Ch) : Prop := y.cr + y.wt < x.cr + x.wt ∨ (y.cr + y.wt = x.cr + x.wt ∧ x.id ≤ y.id)
/-- the channel b is selected of L, and L' is behind it; none: nothing changes -/
def Nx (rd : List Int) (L : List Ch) (r : Option Int) (L' : List Ch) : Prop :=
  (r = none ∧ L' = L ∧ ∀ x ∈ L, x.id ∉ rd) ∨
  ∃ (p : Int) (b : Ch), b ∈ L ∧ el rd p b = true ∧ (∀ x ∈ L, x.id ∈ rd → p ≤ x.pr) ∧ (∀ x ∈ L, el rd p x = true → pf b x) ∧ r = some b.id ∧ L' = L.map (up rd p b.id (ws rd p L))

theorem el_iff {rd : List Int} {p : Int} {x : Ch} : el rd p x = true ↔ x.id ∈ rd ∧ x.pr = p := by simp [el]
theorem ws_perm {rd : List Int} {p : Int} {L R : List Ch} (h : L.Perm R) : ws rd p L = ws rd p R := by
  induction h with
  | nil => rfl
  | cons x _ ih => simp only [ws, ih]
  | swap x y l => simp only [ws]; omega
  | trans _ _ h1 h2 => exact h1.trans h2
theorem ws_append (rd : List Int) (p : Int) : ∀ L R : List Ch, ws rd p (L ++ R) = ws rd p L + ws rd p R
  | [], R => by simp [ws]
  | x :: L, R => by simp only [List.cons_append, ws, ws_append rd p L R]; omega
theorem ws_in {rd : List Int} {p : Int} : ∀ {L : List Ch}, (∀ x ∈ L, x.ok) → 0 ≤ ws rd p L ∧ ws rd p L ≤ 100 * L.length
  | [], _ => by simp [ws]
  | x :: L, h => by
    have h1 := ws_in (rd := rd) (p := p) (L := L) fun y hy => h y (by simp [hy])
    obtain ⟨_, _, _, _, h2, h3⟩ := h x (by simp)
    simp only [ws, List.length_cons]
    split <;> omega
theorem up_id (rd : List Int) (p b s : Int) (x : Ch) : (up rd p b s x).id = x.id := by unfold up; split <;> (try split) <;> rfl
theorem up_pr (rd : List Int) (p b s : Int) (x : Ch) : (up rd p b s x).pr = x.pr := by unfold up; split <;> (try split) <;> rfl
theorem up_wt (rd : List Int) (p b s : Int) (x : Ch) : (up rd p b s x).wt = x.wt := by unfold up; split <;> (try split) <;> rfl
theorem up_ok {rd : List Int} {p b s : Int} {x : Ch} (h : x.ok) : (up rd p b s x).ok := by unfold Ch.ok at h ⊢; rw [up_id, up_pr, up_wt]; exact h
theorem ids_up (rd : List Int) (p b s : Int) (L : List Ch) : ids (L.map (up rd p b s)) = ids L := by
  unfold ids; rw [List.map_map]; exact List.map_congr_left fun x _ => up_id rd p b s x

section
variable {rd : List Int} {L R L' R' : List Ch} {r r' : Option Int}
theorem Nx.good (h : Nx rd L r L') (g : Good L) : Good L' := by
  rcases h with ⟨_, rfl, _⟩ | ⟨p, b, _, _, _, _, _, rfl⟩
  · exact g
  · refine ⟨fun x hx => ?_, by rw [ids_up]; exact g.nod⟩
    obtain ⟨y, hy, rfl⟩ := List.mem_map.1 hx
    exact up_ok (g.ok y hy)
theorem Nx.ids (h : Nx rd L r L') : ids L' = ids L := by
  rcases h with ⟨_, rfl, _⟩ | ⟨p, b, _, _, _, _, _, rfl⟩
  · rfl
  · exact ids_up _ _ _ _ _
/-- the order of the channels does not matter, and one alone can be selected -/
theorem Nx.same (h : Nx rd L r L') (k : Nx rd R r' R') (g : Good L) (p : R.Perm L) : r = r' ∧ R'.Perm L' := by
  rcases h with ⟨rfl, rfl, h3⟩ | ⟨q, b, hb, hq, hmin, hbest, rfl, rfl⟩
  · rcases k with ⟨rfl, rfl, _⟩ | ⟨q', b', hb', hq', _⟩
    · exact ⟨rfl, p⟩
    · exact absurd (el_iff.1 hq').1 (h3 b' (p.mem_iff.1 hb'))
  · rcases k with ⟨rfl, rfl, k3⟩ | ⟨q', b', hb', hq', hmin', hbest', rfl, rfl⟩
    · exact absurd (el_iff.1 hq).1 (k3 b (p.mem_iff.2 hb))
    · have e1 := el_iff.1 hq
      have e2 := el_iff.1 hq'
      have l1 := hmin b' (p.mem_iff.1 hb') e2.1
      have l2 := hmin' b (p.mem_iff.2 hb) e1.1
      obtain rfl : q = q' := by omega
      have f1 := hbest b' (p.mem_iff.1 hb') hq'
      have f2 := hbest' b (p.mem_iff.2 hb) hq
      have e : b.id = b'.id := by unfold pf at f1 f2; omega
      refine ⟨by rw [e], ?_⟩
      rw [e, ws_perm p]
      exact p.map _
theorem Nx.eq (h : Nx rd L r L') (k : Nx rd L r' R') (g : Good L) : r = r' ∧ R' = L' := by
  rcases h with ⟨rfl, rfl, h3⟩ | ⟨q, b, hb, hq, hmin, hbest, rfl, rfl⟩
  · rcases k with ⟨rfl, rfl, _⟩ | ⟨q', b', hb', hq', _⟩
    · exact ⟨rfl, rfl⟩
    · exact absurd (el_iff.1 hq').1 (h3 b' hb')
  · rcases k with ⟨rfl, rfl, k3⟩ | ⟨q', b', hb', hq', hmin', hbest', rfl, rfl⟩
    · exact absurd (el_iff.1 hq).1 (k3 b hb)
    · have e1 := el_iff.1 hq
      have e2 := el_iff.1 hq'
      have l1 := hmin b' hb' e2.1
      have l2 := hmin' b hb e1.1
      obtain rfl : q = q' := by omega
      have f1 := hbest b' hb' hq'
      have f2 := hbest' b hb hq
      have e : b.id = b'.id := by unfold pf at f1 f2; omega
      exact ⟨by rw [e], by rw [e]⟩
end

/-- what is selected, found by counting -/
def mnp (rd : List Int) : List Ch → Int
  | [] => 16
  | x :: l => if x.id ∈ rd then min x.pr (mnp rd l) else mnp rd l
def bst (rd : List Int) (p : Int) : List Ch → Option Ch
  | [] => none
  | x :: l => match bst rd p l with
    | none => if el rd p x then some x else none
    | some y => if el rd p x && (decide (y.cr + y.wt < x.cr + x.wt) || (decide (y.cr + y.wt = x.cr + x.wt) && decide (x.id ≤ y.id))) then some x else some y
def nxf (rd : List Int) (L : List Ch) : Option Int × List Ch :=
  match bst rd (mnp rd L) L with
  | none => (none, L)
  | some b => (some b.id, L.map (up rd (mnp rd L) b.id (ws rd (mnp rd L) L)))
theorem mnp_le {rd : List Int} : ∀ {L : List Ch} {x : Ch}, x ∈ L → x.id ∈ rd → mnp rd L ≤ x.pr
  | y :: l, x, hx, hr => by
    unfold mnp
    rcases List.mem_cons.1 hx with rfl | hx
    · rw [if_pos hr]; omega
    · have := mnp_le hx hr
      split <;> omega
theorem mnp_at {rd : List Int} : ∀ {L : List Ch}, (∀ x ∈ L, x.ok) → (∀ x ∈ L, x.id ∉ rd) ∨ ∃ x ∈ L, x.id ∈ rd ∧ x.pr = mnp rd L
  | [], _ => .inl (by simp)
  | y :: l, h => by
    unfold mnp
    have hl := mnp_at (rd := rd) (L := l) fun x hx => h x (by simp [hx])
    by_cases hy : y.id ∈ rd
    · rw [if_pos hy]
      refine .inr ?_
      by_cases hm : y.pr ≤ mnp rd l
      · exact ⟨y, by simp, hy, by omega⟩
      · rcases hl with hl | ⟨x, hx, h1, h2⟩
        · have h0 := (h y (by simp)).2.2.2.1
          have : mnp rd l = 16 := by
            clear hm h
            induction l with
            | nil => rfl
            | cons z l ih => unfold mnp; rw [if_neg (hl z (by simp))]; exact ih fun x hx => hl x (by simp [hx])
          omega
        · exact ⟨x, by simp [hx], h1, by omega⟩
    · rw [if_neg hy]
      rcases hl with hl | ⟨x, hx, h1, h2⟩
      · exact .inl fun x hx => (List.mem_cons.1 hx).elim (fun e => e ▸ hy) (hl x)
      · exact .inr ⟨x, by simp [hx], h1, h2⟩
def BO (rd : List Int) (p : Int) (L : List Ch) : Option Ch → Prop
  | none => ∀ x ∈ L, el rd p x = false
  | some b => b ∈ L ∧ el rd p b = true ∧ ∀ x ∈ L, el rd p x = true → pf b x
theorem bst_ok {rd : List Int} {p : Int} : ∀ (L : List Ch), BO rd p L (bst rd p L)
  | [] => by simp [bst, BO]
  | y :: l => by
    have ih := bst_ok (rd := rd) (p := p) l
    cases hb : bst rd p l with
    | none =>
      rw [hb] at ih
      cases hy : el rd p y with
      | true =>
        have e : bst rd p (y :: l) = some y := by simp [bst, hb, hy]
        rw [e]
        refine ⟨by simp, hy, fun x hx he => ?_⟩
        rcases List.mem_cons.1 hx with rfl | hx
        · exact .inr ⟨rfl, Int.le_refl _⟩
        · rw [ih x hx] at he; cases he
      | false =>
        have e : bst rd p (y :: l) = none := by simp [bst, hb, hy]
        rw [e]
        exact fun x hx => (List.mem_cons.1 hx).elim (fun e => e ▸ hy) (ih x)
    | some b =>
      rw [hb] at ih
      obtain ⟨h1, h2, h3⟩ := ih
      cases hc : (el rd p y && (decide (b.cr + b.wt < y.cr + y.wt) || (decide (b.cr + b.wt = y.cr + y.wt) && decide (y.id ≤ b.id)))) with
      | true =>
        have e : bst rd p (y :: l) = some y := by simp only [bst, hb, hc, if_true]
        rw [e]
        simp only [Bool.and_eq_true, Bool.or_eq_true, decide_eq_true_eq] at hc
        refine ⟨by simp, hc.1, fun x hx he => ?_⟩
        rcases List.mem_cons.1 hx with rfl | hx
        · exact .inr ⟨rfl, Int.le_refl _⟩
        · have := h3 x hx he
          unfold pf at this ⊢
          omega
      | false =>
        have e : bst rd p (y :: l) = some b := by simp [bst, hb, hc]
        rw [e]
        refine ⟨by simp [h1], h2, fun x hx he => ?_⟩
        rcases List.mem_cons.1 hx with rfl | hx
        · rw [he] at hc
          simp only [Bool.true_and, Bool.or_eq_false_iff, Bool.and_eq_false_iff, decide_eq_false_iff_not] at hc
          unfold pf
          omega
        · exact h3 x hx he
theorem nxf_ok {rd : List Int} {L : List Ch} (h : Good L) : Nx rd L (nxf rd L).1 (nxf rd L).2 := by
  unfold nxf
  have hb := bst_ok (rd := rd) (p := mnp rd L) L
  cases hc : bst rd (mnp rd L) L with
  | none =>
    rw [hc] at hb
    refine .inl ⟨rfl, rfl, ?_⟩
    rcases mnp_at (rd := rd) h.ok with h1 | ⟨x, hx, h1, h2⟩
    · exact h1
    · have := hb x hx
      rw [el_iff.2 ⟨h1, h2⟩] at this
      cases this
  | some b =>
    rw [hc] at hb
    exact .inr ⟨mnp rd L, b, hb.1, hb.2.1, fun x hx hr => mnp_le hx hr, hb.2.2, rfl, rfl⟩
theorem Nx.is {rd : List Int} {L L' : List Ch} {r : Option Int} (h : Nx rd L r L') (g : Good L) : r = (nxf rd L).1 ∧ L' = (nxf rd L).2 := by
  obtain ⟨h1, h2⟩ := h.eq (nxf_ok g) g
  exact ⟨h1, h2.symm⟩

/-! ### bounds -/
/-- behind t calls of Next -/
def Bd (t : Nat) (L : List Ch) : Prop := ∀ x ∈ L, -(1000 * t : Int) ≤ x.cr ∧ x.cr ≤ 1000 * t ∧ 0 ≤ x.sn ∧ x.sn ≤ t
theorem Bd.next {t : Nat} {rd : List Int} {L L' : List Ch} {r : Option Int} (h : Bd t L) (k : Nx rd L r L') (g : Good L) : Bd (t + 1) L' := by
  rcases k with ⟨rfl, rfl, h3⟩ | ⟨p, b, hb, hq, hmin, hbest, rfl, rfl⟩
  · intro x hx
    have := h x hx
    omega
  · intro x hx
    obtain ⟨y, hy, rfl⟩ := List.mem_map.1 hx
    have h1 := h y hy
    obtain ⟨_, _, _, _, h2, h3⟩ := g.ok y hy
    have h4 := ws_in (rd := rd) (p := p) g.ok
    have h5 := g.len
    unfold up
    split
    · split
      · dsimp only; omega
      · dsimp only; omega
    · omega
theorem Bd.perm {t : Nat} {L R : List Ch} (h : Bd t L) (p : R.Perm L) : Bd t R := fun x hx => h x (p.mem_iff.1 hx)

/-! ### Sent -/
def snt (L : List Ch) (i : Int) : Int := match L.find? (fun x => x.id == i) with
  | none => 0
  | some x => x.sn
theorem snt_of {L : List Ch} (g : Good L) {x : Ch} (hx : x ∈ L) : snt L x.id = x.sn := by
  unfold snt
  cases h : L.find? (fun y => y.id == x.id) with
  | none => have := List.find?_eq_none.1 h x hx; simp at this
  | some y =>
    have h1 := List.mem_of_find?_eq_some h
    have h2 := List.find?_some h
    have e := g.same h1 hx (by simpa using h2)
    show y.sn = x.sn
    rw [e]
theorem snt_no {L : List Ch} {i : Int} (h : i ∉ ids L) : snt L i = 0 := by
  unfold snt
  have : L.find? (fun y => y.id == i) = none := List.find?_eq_none.2 fun x hx => by
    have : x.id ≠ i := fun e => h (e ▸ List.mem_map_of_mem hx)
    simpa using this
  rw [this]
theorem snt_perm {L R : List Ch} (g : Good L) (p : R.Perm L) (i : Int) : snt R i = snt L i := by
  by_cases h : i ∈ ids L
  · obtain ⟨x, hx, rfl⟩ := List.mem_map.1 h
    rw [snt_of g hx, snt_of (g.perm p) (p.mem_iff.2 hx)]
  · rw [snt_no h, snt_no fun k => h ((p.map Ch.id).mem_iff.1 k)]

/-! ### shares -/
def sumW : List Ch → Int
  | [] => 0
  | x :: l => x.wt + sumW l
def sumC : List Ch → Int
  | [] => 0
  | x :: l => x.cr + sumC l
def sumN : List Ch → Int
  | [] => 0
  | x :: l => x.sn + sumN l
/-- channels of one priority, all of them ready in t calls -/
structure Shr (rd : List Int) (q : Int) (t : Int) (L : List Ch) : Prop where
  all : ∀ x ∈ L, el rd q x = true
  at_ : ∀ x ∈ L, x.cr = t * x.wt - sumW L * x.sn ∧ -(sumW L) < x.cr
  sum : sumN L = t
theorem ws_all {rd : List Int} {q : Int} : ∀ {L : List Ch}, (∀ x ∈ L, el rd q x = true) → ws rd q L = sumW L
  | [], _ => rfl
  | x :: l, h => by
    unfold ws sumW
    rw [if_pos (h x (by simp)), ws_all fun y hy => h y (by simp [hy])]
theorem sumW_up (rd : List Int) (p b s : Int) : ∀ L : List Ch, sumW (L.map (up rd p b s)) = sumW L
  | [] => rfl
  | x :: l => by simp only [List.map_cons, sumW, up_wt, sumW_up rd p b s l]
theorem sumC_eq {t W : Int} : ∀ {L : List Ch}, (∀ x ∈ L, x.cr = t * x.wt - W * x.sn) → sumC L = t * sumW L - W * sumN L
  | [], _ => by simp [sumC, sumW, sumN]
  | x :: l, h => by
    have h1 := sumC_eq (L := l) fun y hy => h y (by simp [hy])
    have h2 := h x (by simp)
    simp only [sumC, sumW, sumN, Int.mul_add]
    omega
/-- where no credit with its weight is above 0, their sum is not -/
theorem sum_le : ∀ {L : List Ch}, (∀ x ∈ L, x.cr + x.wt ≤ 0) → sumC L + sumW L ≤ 0
  | [], _ => by simp [sumC, sumW]
  | x :: l, h => by
    have h1 := sum_le (L := l) fun y hy => h y (by simp [hy])
    have h2 := h x (by simp)
    simp only [sumC, sumW]
    omega
theorem sumN_up {rd : List Int} {p s : Int} : ∀ {L : List Ch} {b : Ch}, (∀ x ∈ L, el rd p x = true) → (ids L).Nodup → b ∈ L → sumN (L.map (up rd p b.id s)) = sumN L + 1
  | y :: l, b, he, hn, hb => by
    simp only [ids, List.map_cons, List.nodup_cons] at hn
    have hy : (up rd p b.id s y).sn = if y.id = b.id then y.sn + 1 else y.sn := by
      unfold up; rw [if_pos (he y (by simp))]; split <;> rfl
    simp only [List.map_cons, sumN, hy]
    rcases List.mem_cons.1 hb with rfl | hb
    · rw [if_pos rfl]
      have : sumN (l.map (up rd p b.id s)) = sumN l := by
        have key : ∀ m : List Ch, (∀ x ∈ m, x.id ≠ b.id) → sumN (m.map (up rd p b.id s)) = sumN m := by
          intro m
          induction m with
          | nil => exact fun _ => rfl
          | cons z m ih =>
            intro hm
            have hz : (up rd p b.id s z).sn = z.sn := by
              unfold up; split
              · rw [if_neg (hm z (by simp))]
              · rfl
            simp only [List.map_cons, sumN, hz, ih fun x hx => hm x (by simp [hx])]
        exact key l fun x hx e => hn.1 (e ▸ List.mem_map_of_mem hx)
      omega
    · rw [if_neg (fun e : y.id = b.id => hn.1 (e ▸ List.mem_map_of_mem hb)), sumN_up (fun x hx => he x (by simp [hx])) hn.2 hb]
      omega
theorem Shr.next {rd : List Int} {q t : Int} {L L' : List Ch} {r : Option Int} (h : Shr rd q t L) (g : Good L) (hne : L ≠ []) (k : Nx rd L r L') : Shr rd q (t + 1) L' ∧ L' ≠ [] := by
  obtain ⟨z, hz⟩ := List.exists_mem_of_ne_nil L hne
  rcases k with ⟨_, _, h3⟩ | ⟨p, b, hb, hq, hmin, hbest, rfl, rfl⟩
  · exact absurd (el_iff.1 (h.all z hz)).1 (h3 z hz)
  · obtain rfl : p = q := (el_iff.1 hq).2.symm.trans (el_iff.1 (h.all b hb)).2
    refine ⟨?_, by simpa using hne⟩
    have hW : 0 < sumW L := by
      have key : ∀ m : List Ch, (∀ x ∈ m, x.ok) → m ≠ [] → 0 < sumW m := by
        intro m
        induction m with
        | nil => exact fun _ h => absurd rfl h
        | cons y m ih =>
          intro ho _
          have h1 := (ho y (by simp)).2.2.2.2.1
          unfold sumW
          cases m with
          | nil => simp [sumW]; omega
          | cons u m => have := ih (fun x hx => ho x (by simp [hx])) (by simp); omega
      exact key L g.ok hne
    have hpos : 0 < b.cr + b.wt := by
      have h0 := sumC_eq (t := t) (W := sumW L) fun x hx => (h.at_ x hx).1
      rw [h.sum, Int.mul_comm t, Int.sub_self] at h0
      rcases Int.lt_or_le 0 (b.cr + b.wt) with h1 | h1
      · exact h1
      · have := sum_le (L := L) fun x hx => by
          have := hbest x hx (h.all x hx)
          unfold pf at this
          omega
        omega
    refine ⟨fun x hx => ?_, fun x hx => ?_, ?_⟩
    · obtain ⟨y, hy, rfl⟩ := List.mem_map.1 hx
      have := el_iff.1 (h.all y hy)
      exact el_iff.2 ⟨by rw [up_id]; exact this.1, by rw [up_pr]; exact this.2⟩
    · obtain ⟨y, hy, rfl⟩ := List.mem_map.1 hx
      rw [sumW_up, ws_all h.all]
      obtain ⟨h1, h2⟩ := h.at_ y hy
      have h3 := (g.ok y hy).2.2.2.2.1
      unfold up
      rw [if_pos (h.all y hy)]
      split
      · next e =>
        have := g.same hy hb e
        subst this
        dsimp only
        rw [Int.add_mul, Int.mul_add]
        omega
      · dsimp only
        rw [Int.add_mul]
        omega
    · rw [sumN_up h.all g.nod hb, h.sum]
theorem Shr.perm {rd : List Int} {q t : Int} {L : List Ch} (h : Shr rd q t L) (m : Int) (ht : t = sumW L * m) (g : Good L) : ∀ x ∈ L, x.sn = x.wt * m := by
  have hle : ∀ x ∈ L, x.sn ≤ x.wt * m := by
    intro x hx
    obtain ⟨h1, h2⟩ := h.at_ x hx
    have e : x.cr = sumW L * (x.wt * m - x.sn) := by rw [h1, ht, Int.mul_sub, Int.mul_assoc, Int.mul_comm m]
    rcases Int.lt_or_le (x.wt * m) x.sn with h3 | h3
    · exfalso
      have hW : 0 ≤ sumW L := by
        rcases Int.lt_or_le (sumW L) 0 with h4 | h4
        · have key : ∀ l : List Ch, (∀ y ∈ l, y.ok) → 0 ≤ sumW l := by
            intro l
            induction l with
            | nil => exact fun _ => Int.le_refl _
            | cons y l ih =>
              intro ho
              have h1 := (ho y (by simp)).2.2.2.2.1
              have := ih fun z hz => ho z (by simp [hz])
              unfold sumW
              omega
          exact key L g.ok
        · exact h4
      have h5 : sumW L * (x.wt * m - x.sn) ≤ sumW L * (-1) := Int.mul_le_mul_of_nonneg_left (by omega) hW
      omega
    · exact h3
  have hsum : ∀ l : List Ch, (∀ x ∈ l, x.sn ≤ x.wt * m) → sumN l ≤ sumW l * m ∧ (sumN l = sumW l * m → ∀ x ∈ l, x.sn = x.wt * m) := by
    intro l
    induction l with
    | nil => intro _; exact ⟨by simp [sumN, sumW], fun _ x hx => by cases hx⟩
    | cons y l ih =>
      intro hl
      obtain ⟨h1, h2⟩ := ih fun x hx => hl x (by simp [hx])
      have h3 := hl y (by simp)
      simp only [sumN, sumW, Int.add_mul]
      refine ⟨by omega, fun e x hx => ?_⟩
      rcases List.mem_cons.1 hx with rfl | hx
      · omega
      · exact h2 (by omega) x hx
  exact (hsum L hle).2 (by rw [h.sum, ht])
end Go.Proofs.Ytpfhbojodapomaa.Mux
