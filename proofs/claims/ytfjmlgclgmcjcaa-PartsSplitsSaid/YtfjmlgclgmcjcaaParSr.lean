/-
  Package parts' Split: one packet more.
-/
import Derived.Test.YtfjmlgclgmcjcaaParSp
namespace Go.Proofs.Ytfjmlgclgmcjcaa.Par
open Go.RowKit Go.Proofs.Ytfjmlgclgmcjcaa.Row
open Pac (Pk bel_new Cel.later Cel.within)

theorem own_cel {X : World} {base size n : Nat} {t : TypeId} {v : Value} {xs : List Value} (h : X.ownsRow base t size v n xs) {i : Nat} (hi : v.ownBlock = some i) : ∃ cs, Cel X i t cs := by
  rcases h.2 with ⟨rfl, _⟩ | ⟨g, cap, cur, rfl, _, hg, _⟩
  · cases hi
  · injection hi with hi
    have : g = i := hi
    subst this
    exact ⟨_, hg⟩
theorem put_only (W : World) (g i : Nat) (u : Value) : Only [g] W (W.setCell ⟨g, i, none⟩ u) := (Only.refl [g] W).put (.inl (by simp)) u
theorem Bs_cut {w : World} {B b off m : Nat} {d : List Byte} (h : Bs w B (some ⟨b, off, none⟩) d) (k : Nat) : Bs w B (some ⟨b, off + k * m, none⟩) (piece d m k) := fun hl => by
  unfold piece at hl ⊢
  rw [List.length_take, List.length_drop] at hl
  obtain ⟨b', off', he, hb, hc⟩ := h (by omega)
  injection he with he
  injection he with h1 h2
  subst h1 h2
  refine ⟨b, off + k * m, rfl, hb, fun i x hx => ?_⟩
  rw [List.getElem?_take] at hx
  split at hx
  · rw [List.getElem?_drop] at hx
    rw [Nat.add_assoc]
    exact hc _ x hx
  · cases hx
theorem finRange_val (N : Nat) : (List.finRange N).map Fin.val = List.range N := by
  apply List.ext_getElem
  · simp
  · intro i h1 h2; simp

section
variable {w W W2 W4 : World} {g3 g8 n₁ : Nat} {p : Pk} {d : List Byte} {m : Nat} {pre : List Nat} {dv v v' : Value} {qs : List Qp} {A3 : Option Addr} {c3 E x : Nat} {o : Obj}
/-- one packet more -/
theorem SI_step (h3 : g3 < n₁) (h8 : g8 < n₁) (hne : g3 ≠ g8) (hn : n₁ ≤ W.heap.size) (hw3 : w.heap.size ≤ g3) (hw8 : w.heap.size ≤ g8)
    (hb : Cel W g8 26 #[v]) (hrow : Row.Os enc 6 W n₁ 24 v qs) (he : qs.map (·.p) = mids p d m pre) (ho : ∀ q ∈ qs, Ow W n₁ 5 (.slice q.a q.p.d.length q.c) q.p.d) (hk : Below w.heap.size w W)
    (hc : Cel W g3 24 (pkc p.com p.sec p.ap 0 ((p.ct + (pre.length : Int)) % 16384) dv)) (b2 : Below W.heap.size W W2) (hE : (piece d m x).length = E) (o2 : Ow W2 W.heap.size 5 (.slice A3 E c3) (piece d m x))
    (hown : W4.ownsRow n₁ 24 6 v' (qs.length + 1) (flat enc qs ++ enc ⟨mid p d m pre.length x, A3, c3⟩)) (hg : ((W2.setCell ⟨g3, 5, none⟩ (.slice A3 E c3)).alloc o).grownBy W4 v.ownBlock) :
    Cel W4 g8 26 #[v] ∧ Cel W4 g3 24 (pkc p.com p.sec p.ap 0 ((p.ct + (pre.length : Int)) % 16384) (.slice A3 E c3)) ∧
      SI w g3 g8 n₁ p d m (pre ++ [x]) ((W4.setCell ⟨g8, 0, none⟩ v').setCell ⟨g3, 4, none⟩ (.int .i64 ((p.ct + ((pre.length + 1 : Nat) : Int)) % 16384))) ∧
      Only (g3 :: g8 :: v.ownBlock.toList) W ((W4.setCell ⟨g8, 0, none⟩ v').setCell ⟨g3, 4, none⟩ (.int .i64 ((p.ct + ((pre.length + 1 : Nat) : Int)) % 16384))) := by
  have hl := hrow.lt
  have v3 : v.ownBlock ≠ some g3 := fun e => by have := (hl _ e).1; omega
  have v8 : v.ownBlock ≠ some g8 := fun e => by have := (hl _ e).1; omega
  obtain ⟨S, hS⟩ : ∃ S, S = g3 :: g8 :: v.ownBlock.toList := ⟨_, rfl⟩
  have m3 : g3 ∈ S := by simp [hS]
  have m8 : g8 ∈ S := by simp [hS]
  have mv : ∀ x ∈ v.ownBlock.toList, x ∈ S := fun x hx => by rw [hS]; exact List.mem_cons_of_mem _ (List.mem_cons_of_mem _ hx)
  have p5 : Only S W2 W4 := ((((Only.refl S W2).put (p := ⟨g3, 5, none⟩) (.inl m3) (.slice A3 E c3)).alloc o).trans (Only.of_grown hg) (fun x hx => .inl (mv x hx)))
  have p7 := (p5.put (p := ⟨g8, 0, none⟩) (.inl m8) v').put (p := ⟨g3, 4, none⟩) (.inl m3) (.int .i64 ((p.ct + ((pre.length + 1 : Nat) : Int)) % 16384))
  have q7 := (Only.of_below (S := S) b2).trans p7 (fun x hx => .inl hx)
  have x3 : Cel (W2.setCell ⟨g3, 5, none⟩ (.slice A3 E c3)) g3 24 (pkc p.com p.sec p.ap 0 ((p.ct + (pre.length : Int)) % 16384) (.slice A3 E c3)) := by
    have := (hc.only (Only.of_below (S := []) b2) (by simp)).put 5 (.slice A3 E c3)
    simpa [pkc] using this
  have x4 := x3.grown hg v3
  have y3 := (hb.only (Only.of_below (S := []) b2) (by simp)).only (put_only W2 g3 5 (.slice A3 E c3)) (by simp; omega)
  have y4 := y3.grown hg v8
  have x6 := (x4.only (put_only W4 g8 0 v') (by simpa using hne)).put 4 (.int .i64 ((p.ct + ((pre.length + 1 : Nat) : Int)) % 16384))
  have y6 := (y4.put 0 v').only (put_only _ g3 4 (.int .i64 ((p.ct + ((pre.length + 1 : Nat) : Int)) % 16384))) (by simp; omega)
  have r4 : Row.Os enc 6 W4 n₁ 24 v' (qs ++ [⟨mid p d m pre.length x, A3, c3⟩]) := by
    unfold Row.Os
    rw [List.length_append, flat_append, flat_cons]
    simpa [flat] using hown
  have hl4 := r4.lt
  have r6 := (r4.only (put_only W4 g8 0 v') (fun i hi => by have := (hl4 i hi).1; simp; omega)).only (put_only _ g3 4 (.int .i64 ((p.ct + ((pre.length + 1 : Nat) : Int)) % 16384))) (fun i hi => by have := (hl4 i hi).1; simp; omega)
  refine ⟨y4, x4, ⟨⟨.slice A3 E c3, ?_⟩, ⟨v', qs ++ [⟨mid p d m pre.length x, A3, c3⟩], by simpa using y6, r6, by rw [List.map_append, he, mids_snoc]; rfl, fun q hq => ?_⟩, hk.trans (q7.below hk.size fun i hi => ?_)⟩, by rw [← hS]; exact q7⟩
  · rw [List.length_append]
    simpa [pkc] using x6
  · rcases List.mem_append.1 hq with hq | hq
    · refine (ho q hq).only q7 fun i hi hm => ?_
      have hi1 := ((ho q hq).lt i hi).1
      rw [hS] at hm
      rcases List.mem_cons.1 hm with e | hm
      · omega
      · rcases List.mem_cons.1 hm with e | hm
        · omega
        · obtain ⟨cs, hcs⟩ := own_cel hrow (i := i) (by simpa using hm)
          exact (ho q hq).apart hcs (by decide) hi
    · obtain rfl := List.mem_singleton.1 hq
      have o3 : Ow W2 n₁ 5 (.slice A3 (piece d m x).length c3) (piece d m x) := by rw [hE]; exact o2.more hn
      refine o3.only p7 fun i hi hm => ?_
      have hi1 := (o2.lt i (by rw [hE] at hi; exact hi)).1
      rw [hS] at hm
      rcases List.mem_cons.1 hm with e | hm
      · omega
      · rcases List.mem_cons.1 hm with e | hm
        · omega
        · have := (hl i (by simpa using hm)).2; omega
  · rw [hS] at hi
    rcases List.mem_cons.1 hi with e | hm
    · omega
    · rcases List.mem_cons.1 hm with e | hm
      · omega
      · have := (hl i (by simpa using hm)).1; omega
end
section
variable {W : World} {n₁ g N : Nat} {p : Pk} {d : List Byte} {m : Nat} {v : Value} {qs : List Qp}
/-- the flags of the first packet and of the last one -/
theorem SI_end (hrow : Row.Os enc 6 W n₁ 24 v qs) (hv : v.ownBlock = some g) (he : qs.map (·.p) = mids p d m (List.range N)) (ho : ∀ q ∈ qs, Ow W n₁ 5 (.slice q.a q.p.d.length q.c) q.p.d) (hN : N = num d.length m) (h0 : 0 < N) :
    (W.cell? ⟨g, 3, none⟩ = some (.int .i64 0) ∧ ∀ u i j, ((W.setCell ⟨g, i, none⟩ u).frozen? ⟨g, j, none⟩ = false ∧ W.frozen? ⟨g, j, none⟩ = false)) ∧
      (W.setCell ⟨g, 3, none⟩ (.int .i64 1)).cell? ⟨g, (N - 1) * 6 + 3, none⟩ = some (.int .i64 (if N = 1 then 1 else 0)) ∧
      ∃ qs' : List Qp, qs'.map (·.p) = spl p d m ∧ Row.Os enc 6 ((W.setCell ⟨g, 3, none⟩ (.int .i64 1)).setCell ⟨g, (N - 1) * 6 + 3, none⟩ (.int .i64 (if N = 1 then 3 else 2))) n₁ 24 v qs' ∧
        (∀ q ∈ qs', Ow ((W.setCell ⟨g, 3, none⟩ (.int .i64 1)).setCell ⟨g, (N - 1) * 6 + 3, none⟩ (.int .i64 (if N = 1 then 3 else 2))) n₁ 5 (.slice q.a q.p.d.length q.c) q.p.d) := by
  have hlen : qs.length = N := by have := congrArg List.length he; simpa [mids_len] using this
  have hat : ∀ i, i < N → ∃ a c, qs[i]? = some ⟨mid p d m i i, a, c⟩ := fun i hi => by
    have h1 := congrArg (fun l => l[i]?) he
    simp only [List.getElem?_map, mids_at hi] at h1
    cases hq : qs[i]? with
    | none => rw [hq] at h1; cases h1
    | some q =>
      rw [hq] at h1
      injection h1 with h1
      exact ⟨q.a, q.c, by rw [← h1]⟩
  obtain ⟨cs, hcs⟩ := own_cel hrow hv
  have hvs : ∀ W' l, Row.Os enc 6 W' n₁ 24 v l → ∀ i x, l[i]? = some x → ∀ j u, (enc x)[j]? = some u → W'.cell? ⟨g, i * 6 + j, none⟩ = some u := fun W' l h i x hx j u hu => by
    have hil := (List.getElem?_eq_some_iff.1 hx).1
    obtain ⟨g', c, rfl, _, _, _⟩ := h.row (by omega)
    have : g' = g := by injection hv
    subst this
    obtain ⟨b, off, hb, _, hc⟩ := h.rs enc_ok (by omega)
    injection hb with hb
    injection hb with h1 h2
    subst h1 h2
    have := hc i x hx j u hu
    rwa [Nat.zero_add] at this
  obtain ⟨a0, c0, hq0⟩ := hat 0 h0
  have r1 := hrow.set_ enc_ok hv hq0 (x' := ⟨{ mid p d m 0 0 with fl := 1 }, a0, c0⟩) (j := 3) (u := .int .i64 1) rfl (by decide)
  rw [Nat.zero_mul, Nat.zero_add] at r1
  obtain ⟨an, cn, hqn⟩ := hat (N - 1) (by omega)
  have hn1 : (qs.set 0 ⟨{ mid p d m 0 0 with fl := 1 }, a0, c0⟩)[N - 1]? = some ⟨{ mid p d m (N - 1) (N - 1) with fl := if N = 1 then 1 else 0 }, an, cn⟩ := by
    by_cases e : N = 1
    · subst e
      rw [List.getElem?_set_self (by omega)]
      rw [show 1 - 1 = 0 from rfl] at hqn
      rw [hq0] at hqn
      injection hqn with hqn
      injection hqn with _ e1 e2
      subst e1 e2
      rfl
    · rw [List.getElem?_set_ne (by omega), hqn, if_neg e]
      rfl
  have r2 := r1.set_ enc_ok hv hn1 (x' := ⟨{ mid p d m (N - 1) (N - 1) with fl := flg (N - 1) N }, an, cn⟩) (j := 3) (u := .int .i64 (flg (N - 1) N)) rfl (by decide)
  rw [flg_last N h0] at r2
  have only1 : ∀ q ∈ qs, Ow ((W.setCell ⟨g, 3, none⟩ (.int .i64 1)).setCell ⟨g, (N - 1) * 6 + 3, none⟩ (.int .i64 (if N = 1 then 3 else 2))) n₁ 5 (.slice q.a q.p.d.length q.c) q.p.d := fun q hq =>
    (ho q hq).only (((Only.refl [g] W).put (p := ⟨g, 3, none⟩) (.inl (by simp)) (.int .i64 1)).put (p := ⟨g, (N - 1) * 6 + 3, none⟩) (.inl (by simp)) (.int .i64 (if N = 1 then 3 else 2))) (fun i hi hm => by
      obtain rfl := List.mem_singleton.1 hm
      exact (ho q hq).apart hcs (by decide) hi)
  refine ⟨⟨hvs W qs hrow 0 _ hq0 3 _ rfl, fun u i j => ⟨(hcs.put i u).free j, hcs.free j⟩⟩, hvs _ _ r1 _ _ hn1 3 _ rfl, _, ?_, r2, fun q hq => ?_⟩
  · rw [List.map_set, List.map_set, he]
    exact spl_set hN h0 rfl (by rw [flg_last N h0])
  · rcases List.mem_or_eq_of_mem_set hq with hq | rfl
    · rcases List.mem_or_eq_of_mem_set hq with hq | rfl
      · exact only1 q hq
      · have h9 := only1 _ (List.mem_of_getElem? hq0); exact h9
    · have h9 := only1 _ (List.mem_of_getElem? hqn); exact h9
end
theorem PS_of {W : World} {n₁ N c : Nat} {A : Option Addr} {qs : List Qp} {l : List Pk} (hr : Row.Os enc 6 W n₁ 24 (.slice A N c) qs) (he : qs.map (·.p) = l) (ho : ∀ q ∈ qs, Ow W n₁ 5 (.slice q.a q.p.d.length q.c) q.p.d) : PS W W.heap.size A l :=
  ⟨qs, he, hr.rs enc_ok, fun q hq => by
    obtain ⟨a, c, e, hd⟩ := Dt_own (ho q hq)
    cases e
    exact hd⟩
theorem PS_put {W : World} {n₁ N c D : Nat} {A : Option Addr} {qs : List Qp} {l : List Pk} {o : Obj} (o' : Obj) (hr : Row.Os enc 6 W n₁ 24 (.slice A N c) qs) (he : qs.map (·.p) = l) (ho : ∀ q ∈ qs, Ow W n₁ 5 (.slice q.a q.p.d.length q.c) q.p.d)
    (hD : W.heap[D]? = some o) (hc : o.isCells = false) : PS (W.putObj D o') (W.putObj D o').heap.size A l := by
  have q := only_own (grownBy_putObj' W D o')
  have hw : ∀ r, some D = some r → ∃ o : Obj, W.heap[r]? = some o ∧ o.isCells = false := fun r e => by injection e with e; subst e; exact ⟨o, hD, hc⟩
  exact PS_of (hr.only q (own_not_row hr hw)) he (fun x hx => (ho x hx).only q (own_not_row (ho x hx) hw))
end Go.Proofs.Ytfjmlgclgmcjcaa.Par
