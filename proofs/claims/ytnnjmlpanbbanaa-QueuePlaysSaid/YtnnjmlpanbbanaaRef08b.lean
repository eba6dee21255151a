/-
  The reference of layer 8: Items, Push.
-/
import Derived.Test.YtnnjmlpanbbanaaRef08a
namespace Go.Proofs.Ytnnjmlpanbbanaa.Rng.Que
open Go.RowKit Go.Shelf Ints

set_option maxHeartbeats 2000000 in
theorem ritems_any (L : List R) (cap : Int) (w : World) (A : Option Addr) (c : Nat) (hr : Rs w w.heap.size A L) (hl : L.length ≤ 1000000) :
    Calls Try.prog 23 #[.agg #[I cap, .slice A L.length c]] w fun e w' => ∃ v, e = .returned v ∧ On w' w.heap.size 3 v (itm L) ∧ Below w.heap.size w w' := by
  have hbr : Cel (w.alloc (.cells #[I cap, .slice A L.length c] 28)) w.heap.size 28 #[I cap, .slice A L.length c] := Cel.new w _ _
  have b1 : Below w.heap.size w (w.alloc (.cells #[I cap, .slice A L.length c] 28)) := (Below.refl _ w).alloc (Nat.le_refl _) _
  go_enter Try.func23, Try.ntmps23
  go_wp2
  go_loopw [3, 4] (fun o i wr => ∃ k : Nat, k ≤ L.length ∧ i = .int .i64 k ∧ On wr (w.heap.size + 1) 3 o (itm (L.take k)) ∧ Cel wr w.heap.size 28 #[I cap, .slice A L.length c] ∧ Below w.heap.size w wr)
    (fun _ i _ => L.length - (intOf i).toNat)
  case atStart => exact ⟨0, Nat.zero_le _, rfl, On.nil_ _ _ _, hbr, b1⟩
  case round =>
    obtain ⟨k, hk, rfl, ho, hbx, hbel⟩ := hrel
    have hsz := hbx.lt
    have cx1 : wr.cell? ⟨w.heap.size, 1, none⟩ = some (.slice A L.length c) := hbx.cell 1
    by_cases hlt : k < L.length
    · obtain ⟨b, off, rfl, hbw, hc1, hc2⟩ := (hr.below hbel).at_ hlt
      have htk : Hid (itm (L.take (k + 1)) = itm (L.take k) ++ [L[k].2]) := Lib.hid (by unfold itm; rw [List.take_add_one, List.getElem?_eq_getElem hlt, List.map_append]; rfl)
      clear hr hbr
      generalize L[k] = y at hc1 hc2 htk
      obtain ⟨p, q⟩ := y
      dsimp only at hc1 hc2 htk
      have hil : (itm (L.take k)).length ≤ 1000000 := by rw [itm_length, List.length_take]; omega
      go_wp2_with (at_builtin; refine wpList_iapp _ is_ints rfl (.tmp 12) (.tmp 19) rfl rfl (ho.alloc _) (l := [q]) rfl rfl (Ns_new1 _ _ _) (by simp) (by simp; omega) (by simp; omega) ?_; intro v2 w2 hown2 hg2 hv2)
      go_roundw
      case rel => exact ⟨k + 1, hlt, by simp, by rw [htk.out]; exact hown2, hbx.grown hg2 (fun he => by have := ho.base_le _ he; omega), (hbel.alloc (by omega) _).grown hg2 (by simp; omega) (fun i hi => by have := ho.base_le i hi; omega)⟩
      case measure => simp [intOf]; omega
    · obtain rfl : k = L.length := by omega
      rw [List.take_length] at ho
      have ho2 := ho.more (Nat.le_succ w.heap.size)
      go_wp2
      go_ret
      exact ⟨_, rfl, ho2, hbel⟩

/-! ### Push -/
theorem rpush_results {tmps : Array Value} {W : World} {g : Nat} {x y e : Value} (h6 : tmps.getD 6 undef = .pointer (some ⟨g, 0, none⟩)) (h7 : tmps.getD 7 undef = e) (c0 : W.cell? ⟨g, 0, none⟩ = some x) (c1 : W.cell? ⟨g, 1, none⟩ = some y) :
    (results Try.f12 tmps).run Try.prog W = .ok (.tuple #[.agg #[x, y], e]) W := by
  simp only [Array.getD_eq_getD_getElem?] at h6 h7
  simp [results, Try.results12, go_sem, h6, h7, c0, c1]

theorem Rs_take {w : World} {B : Nat} {A : Option Addr} {l : List R} (h : Rs w B A l) (n : Nat) : Rs w B A (l.take n) := fun hl => by
  obtain ⟨b, off, he, hb, hc⟩ := h (by simp at hl; omega)
  refine ⟨b, off, he, hb, fun i x hx => hc i x ?_⟩
  rw [List.getElem?_take] at hx
  split at hx
  · exact hx
  · cases hx
/-- a struct written to a block of its own -/
theorem rq_put {w W : World} {N : Nat} {t : TypeId} {a b : Value} (h : Cel W N t #[a, b]) (hb : Below w.heap.size w W) (hN : w.heap.size ≤ N) (x y : Value) :
    ((W.setCell ⟨N, 0, none⟩ x).setCell ⟨N, 1, none⟩ y).cell? ⟨N, 0, none⟩ = some x ∧ ((W.setCell ⟨N, 0, none⟩ x).setCell ⟨N, 1, none⟩ y).cell? ⟨N, 1, none⟩ = some y ∧
    Below w.heap.size w ((W.setCell ⟨N, 0, none⟩ x).setCell ⟨N, 1, none⟩ y) ∧ Only [N] W ((W.setCell ⟨N, 0, none⟩ x).setCell ⟨N, 1, none⟩ y) := by
  have h2 := (h.put 0 x).put 1 y
  refine ⟨h2.cell 0, h2.cell 1, ?_, ((Only.refl [N] W).put (p := ⟨N, 0, none⟩) (.inl (by simp)) x).put (p := ⟨N, 1, none⟩) (.inl (by simp)) y⟩
  exact (hb.setCell (p := ⟨N, 0, none⟩) hN x).setCell (p := ⟨N, 1, none⟩) hN y

theorem wpList_rapp_n {P : Program} (w : World) {t e : TypeId} (hT : IsRanges P t e) {ops : Array Oper} {rest : List Oper} {o : Oper} {a : Act} {Q : Exit → Act → World → Prop} (hgd : o.guard = none) (s x : Operand)
    (ho : o.op = .call { callee := .builtin .append, args := #[s, x], argTypes := #[t, t] })
    {base : Nat} {v : Value} {m : List R} (hs : a.eval s = v) (hown : Os w base e v m)
    {B n : Nat} {A : Option Addr} {l : List R} {c : Nat} (hl : l.length = n) (hx : a.eval x = .slice A n c) (hr : Rs w B A l) (hn : A = none → c = 0) (h47 : m.length + l.length ≤ 8796093022208) (hbase : base ≤ w.heap.size)
    (h : ∀ v' w', Os w' base e v' (m ++ l) → w.grownBy w' v.ownBlock → (v'.ownBlock = v.ownBlock ∨ v'.ownBlock = some w.heap.size) → wpList P ops Q rest (a.put o.dst v') w') : wpList P ops Q (o :: rest) a w := by
  subst hl
  exact wpList_rapp w hT hgd s x ho hs hown hx hr hn h47 hbase h
theorem step_rapp_n {P : Program} (w : World) {t e : TypeId} (hT : IsRanges P t e) {ops : Array Oper} {o : Oper} {a : Act} {K : Act → World → Prop} {Q : Exit → Act → World → Prop} {E : Prop} (hgd : o.guard = none) (s x : Operand)
    (ho : o.op = .call { callee := .builtin .append, args := #[s, x], argTypes := #[t, t] })
    {base : Nat} {v : Value} {m : List R} (hs : a.eval s = v) (hown : Os w base e v m)
    {B n : Nat} {A : Option Addr} {l : List R} {c : Nat} (hl : l.length = n) (hx : a.eval x = .slice A n c) (hr : Rs w B A l) (hn : A = none → c = 0) (h47 : m.length + l.length ≤ 8796093022208) (hbase : base ≤ w.heap.size)
    (h : ∀ v' w', Os w' base e v' (m ++ l) → w.grownBy w' v.ownBlock → (v'.ownBlock = v.ownBlock ∨ v'.ownBlock = some w.heap.size) → K (a.put o.dst v') w') :
    if Region.wanted o (yielded ops a.tmps) = true then Oper.wp P o a w K Q else E := by
  subst hl
  exact step_rapp w hT hgd s x ho hs hown hx hr hn h47 hbase h
/-- an append's world -/
theorem app_below {B base : Nat} {w w1 w2 : World} {v : Value} {C : Array Value} {l : List R} {e t : TypeId} (h : Below B w w1) (hB : B ≤ w1.heap.size) (hbase : B ≤ base) (ho : Os w1 base e v l)
    (hg : (w1.alloc (.cells C t)).grownBy w2 v.ownBlock) : Below B w w2 :=
  (h.alloc hB _).grown hg (by simp; omega) fun k hk => Nat.le_trans hbase (ho.base_le k hk)

theorem push_split {p i : Int} {L : List R} {k : Nat} (hk : k ≤ L.length) (h1 : ∀ y ∈ L.take k, ¬ p < y.1) (h2 : ∀ h : k < L.length, p < L[k].1) : ins (p, i) L = L.take k ++ [(p, i)] ++ L.drop k := by
  rcases Nat.lt_or_ge k L.length with h | h
  · have := ins_split (x := (p, i)) (z := L[k]) (A := L.take k) (B := L.drop (k + 1)) h1 (h2 h)
    rw [← List.drop_eq_getElem_cons h, List.take_append_drop] at this
    rw [this]; simp
  · obtain rfl : k = L.length := by omega
    rw [List.take_length] at h1 ⊢
    rw [ins_end (x := (p, i)) h1]; simp
end Go.Proofs.Ytnnjmlpanbbanaa.Rng.Que
