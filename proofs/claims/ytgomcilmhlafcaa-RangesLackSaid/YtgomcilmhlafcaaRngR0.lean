/-
  The reference of layer 7: insert, Of, Add.
-/
import Derived.Test.YtgomcilmhlafcaaRngW1
namespace Go.Proofs.Ytgomcilmhlafcaa.Rng
open Go.RowKit

theorem ins1_step {l : List R} {k : Nat} (h : k < l.length) (r : R) (h2 : l[k].2 < r.1) : l.take k ++ ins1 (l.drop k) r = l.take (k + 1) ++ ins1 (l.drop (k + 1)) r := by
  rw [List.drop_eq_getElem_cons h, ins1, if_pos h2, List.take_add_one, List.getElem?_eq_getElem h, Option.toList_some, List.append_assoc]; rfl
theorem ins1_ins2 {l : List R} {k : Nat} (h : k < l.length) (r : R) (h2 : ¬ l[k].2 < r.1) : ins1 (l.drop k) r = ins2 (l.drop k) r := by
  rw [List.drop_eq_getElem_cons h, ins1, if_neg h2]
theorem ins2_step {l : List R} {k : Nat} (h : k < l.length) (r : R) (h2 : l[k].1 ≤ r.2) : ins2 (l.drop k) r = ins2 (l.drop (k + 1)) (min r.1 l[k].1, max r.2 l[k].2) := by
  rw [List.drop_eq_getElem_cons h, ins2, if_pos h2]
theorem ins2_end {l : List R} {k : Nat} (h : k < l.length) (r : R) (h2 : ¬ l[k].1 ≤ r.2) : ins2 (l.drop k) r = r :: l.drop k := by
  rw [List.drop_eq_getElem_cons h, ins2, if_neg h2]

theorem bel_draws {B : Nat} {w w1 : World} (h : Below B w w1) (n : Nat) : Below B w (w1.drewN n) := h.trans (drewN_below w1 n)
theorem bel_drew {B : Nat} {w w1 : World} (h : Below B w w1) : Below B w w1.drew := h.trans ⟨rfl, rfl, rfl, Nat.le_refl _, fun _ _ => rfl⟩
theorem app_below {B base : Nat} {w w1 w2 : World} {v : Value} {C : Array Value} {l : List R} {e t : TypeId} (h : Below B w w1) (hB : B ≤ w1.heap.size) (hbase : B ≤ base) (ho : Os w1 base e v l)
    (hg : (w1.alloc (.cells C t)).grownBy w2 v.ownBlock) : Below B w w2 :=
  (h.alloc hB _).grown hg (by simp; omega) fun k hk => Nat.le_trans hbase (ho.base_le k hk)
theorem app_cel {base g : Nat} {w1 w2 : World} {v : Value} {C cs : Array Value} {l : List R} {e t t' : TypeId} (h : Cel w1 g t cs) (hbase : g < base) (ho : Os w1 base e v l)
    (hg : (w1.alloc (.cells C t')).grownBy w2 v.ownBlock) : Cel w2 g t cs :=
  h.grown hg fun he => by have := ho.base_le g he; omega

theorem Os.put {w : World} {base : Nat} {e : TypeId} {v : Value} {l : List R} (h : Os w base e v l) {g : Nat} (i : Nat) (hg : g < base) (u : Value) : Os (w.setCell ⟨g, i, none⟩ u) base e v l :=
  h.only ((Only.refl [g] w).put (p := ⟨g, i, none⟩) (.inl (by simp)) u) (fun j hj => by have := h.base_le j hj; simp; omega)
theorem wpList_rapp_n {P : Program} (w : World) {t e : TypeId} (hT : IsRanges P t e) {ops : Array Oper} {rest : List Oper} {o : Oper} {a : Act} {Q : Exit → Act → World → Prop} (hgd : o.guard = none) (s x : Operand)
    (ho : o.op = .call { callee := .builtin .append, args := #[s, x], argTypes := #[t, t] })
    {base : Nat} {v : Value} {m : List R} (hs : a.eval s = v) (hown : Os w base e v m)
    {B n : Nat} {A : Option Addr} {l : List R} {c : Nat} (hl : l.length = n) (hx : a.eval x = .slice A n c) (hr : Rs w B A l) (hn : A = none → c = 0) (h47 : m.length + l.length ≤ 8796093022208) (hbase : base ≤ w.heap.size)
    (h : ∀ v' w', Os w' base e v' (m ++ l) → w.grownBy w' v.ownBlock → (v'.ownBlock = v.ownBlock ∨ v'.ownBlock = some w.heap.size) → wpList P ops Q rest (a.put o.dst v') w') : wpList P ops Q (o :: rest) a w := by
  subst hl
  exact wpList_rapp w hT hgd s x ho hs hown hx hr hn h47 hbase h

theorem Os.addr {w : World} {base n c : Nat} {e : TypeId} {A : Option Addr} {l : List R} (h : Os w base e (.slice A n c) l) : (A = none ∧ c = 0) ∨ ∃ g, A = some ⟨g, 0, none⟩ := by
  rcases h.2 with ⟨he, _⟩ | ⟨g, cap, cur, he, _⟩
  · cases he; exact .inl ⟨rfl, rfl⟩
  · cases he; exact .inr ⟨g, rfl⟩
set_option maxHeartbeats 8000000 in
theorem insert_any (l : List R) (x y : Int) (w : World) (base : Nat) (v : Value) (h : Os w base 24 v l) (hb : base ≤ w.heap.size) (hl : l.length ≤ 1099511627776) :
    Calls Try.prog 29 #[v, .agg #[I x, I y]] w fun e w' => ∃ v', e = .returned v' ∧ Os w' base 24 v' (ins l (x, y)) ∧ Below w.heap.size w w' := by
  obtain ⟨A, c, rfl, hr, hn, hc1, hc2⟩ := h.reads
  have hA0 := h.addr
  have b1 : Below w.heap.size w (w.alloc (.cells #[I x, I y] 24)) := (Below.refl _ w).alloc (Nat.le_refl _) _
  have bx : Cel (w.alloc (.cells #[I x, I y] 24)) w.heap.size 24 #[I x, I y] := Cel.new w _ _
  by_cases hxy : y ≤ x
  · have he : decide (y ≤ x) = true := by simpa using hxy
    rw [ins, if_pos hxy]
    have h1 := h.below b1
    clear hr hn
    go_enter Try.func29, Try.ntmps29
    go_wp2
    go_ret
    exact ⟨_, rfl, h1, b1⟩
  · have he : decide (y ≤ x) = false := by simpa using hxy
    rw [ins, if_neg hxy]
    obtain ⟨G, hG⟩ : ∃ G, G = ins1 l (x, y) := ⟨_, rfl⟩
    rw [← hG]
    have HG := Lib.hid hG
    clear hG
    go_enter Try.func29, Try.ntmps29
    go_wp2
    go_loopw [5, 6] (fun o i wr => ∃ k : Nat, k ≤ l.length ∧ i = .int .i64 k ∧ Os wr (w.heap.size + 1) 24 o (l.take k) ∧ Cel wr w.heap.size 24 #[I x, I y] ∧ Below w.heap.size w wr ∧ Hid (G = l.take k ++ ins1 (l.drop k) (x, y)))
      (fun _ i _ => l.length - (intOf i).toNat)
    case atStart => exact ⟨0, Nat.zero_le _, rfl, Os.nil_ _ _ _, bx, b1, Lib.hid (by simpa using HG.out)⟩
    case round =>
      obtain ⟨k, hk, rfl, ho, hbx, hbel, hg⟩ := hrel
      have cx0 : wr.cell? ⟨w.heap.size, 0, none⟩ = some (I x) := hbx.cell 0
      have cx1 : wr.cell? ⟨w.heap.size, 1, none⟩ = some (I y) := hbx.cell 1
      have hsz := hbx.lt
      by_cases hk2 : k < l.length ∧ (∀ h : k < l.length, l[k].2 < x)
      · obtain ⟨hlt, h2⟩ := hk2
        have h2 := h2 hlt
        obtain ⟨b, off, rfl, hbw, hc1', hc2'⟩ := (hr.below hbel).at_ hlt
        have hd1 : decide ((k : Int) < (l.length : Int)) = true := by simpa using hlt
        have hd2 : decide (l[k].2 < x) = true := by simpa using h2
        obtain ⟨⟨p, q⟩, hx⟩ : ∃ z, z = l[k] := ⟨_, rfl⟩
        have hg' := Lib.hid (hg.out.trans (ins1_step hlt (x, y) h2))
        have htk : l.take k ++ [(p, q)] = l.take (k + 1) := by rw [hx, List.take_add_one, List.getElem?_eq_getElem hlt]; rfl
        rw [← hx] at hc1' hc2' hd2
        clear h2 hx hg HG
        dsimp only at hc1' hc2' hd2
        go_wp2_with fail
        go_quiet (fail)
        go_wp2_with (at_builtin; refine wpList_rapp _ is_ranges rfl (.tmp 27) (.tmp 32) rfl rfl ((ho.draws _).alloc _) (l := [(p, q)]) rfl (Rs_new1 _ _ _ _) (by simp) (by rw [List.length_take]; simp; omega) (by simp; omega) ?_; intro v2 w2 hown2 hg2 hv2)
        go_roundw
        case rel => exact ⟨k + 1, hlt, by simp, by rw [← htk]; exact hown2, app_cel (hbx.draws _) (Nat.lt_succ_self _) (ho.draws _) hg2, app_below (bel_draws hbel _) (by simp; omega) (by omega) (ho.draws _) hg2, hg'⟩
        case measure => simp [intOf]; omega
      · have hfin : G = l.take k ++ ins2 (l.drop k) (x, y) := by
          rw [hg.out]
          rcases Nat.lt_or_ge k l.length with hlt | hlt
          · rw [ins1_ins2 hlt]
            exact fun h2 => hk2 ⟨hlt, fun _ => h2⟩
          · rw [List.drop_eq_nil_of_le hlt]; rfl
        have HF := Lib.hid hfin
        clear hfin hg HG
        have hcase : (∃ b off, A = some ⟨b, off, none⟩ ∧ ∃ p q : Int, wr.cell? ⟨b, off + k * 2, none⟩ = some (I p) ∧ wr.cell? ⟨b, off + k * 2 + 1, none⟩ = some (I q) ∧ decide ((k : Int) < (l.length : Int)) = true ∧ decide (q < x) = false ∧ k < l.length) ∨
            (decide (k < l.length) = false ∧ k = l.length) := by
          rcases Nat.lt_or_ge k l.length with hlt | hlt
          · obtain ⟨b, off, e, hbw, hc1', hc2'⟩ := (hr.below hbel).at_ hlt
            exact .inl ⟨b, off, e, _, _, hc1', hc2', by simpa using hlt, decide_eq_false fun h2 => hk2 ⟨hlt, fun _ => h2⟩, hlt⟩
          · exact .inr ⟨by simpa using hlt, by omega⟩
        clear hk2
        obtain ⟨A', hA'⟩ : ∃ A', A' = A := ⟨_, rfl⟩
        have HA := Lib.hid hA'
        clear hA'
        rcases hcase with ⟨b, off, rfl, p0, q0, hc1', hc2', hd1, hd2, hlt⟩ | ⟨hd1, hke⟩
        all_goals
          go_wp2_with fail
          go_quiet (fail)
          go_wp2_with fail
          have ho2 := ho.draws nq
          have hbx2 := hbx.draws nq
          have hbel2 := bel_draws hbel nq
          obtain ⟨w3, hw3⟩ : ∃ w3, w3 = wr.drewN nq := ⟨_, rfl⟩
          rw [← hw3] at ho2 hbx2 hbel2 ⊢
          clear hw3 ho hbx hbel
          go_loopw [6] (fun i wr => ∃ (k2 : Nat) (p q : Int), k2 ≤ l.length ∧ i = .int .i64 k2 ∧ Os wr (w.heap.size + 1) 24 u5 (l.take k) ∧ Cel wr w.heap.size 24 #[I p, I q] ∧ Below w.heap.size w wr ∧ Hid (G = l.take k ++ ins2 (l.drop k2) (p, q)))
            (fun i _ => l.length - (intOf i).toNat)
          case atStart => exact ⟨k, x, y, hk, rfl, ho2, hbx2, hbel2, HF⟩
          case round =>
            obtain ⟨k2, p, q, hk2, rfl, ho3, hbx3, hbel3, hg3⟩ := hrel
            have cx0 : wr.cell? ⟨w.heap.size, 0, none⟩ = some (I p) := hbx3.cell 0
            have cx1 : wr.cell? ⟨w.heap.size, 1, none⟩ = some (I q) := hbx3.cell 1
            have fx0 : wr.frozen? ⟨w.heap.size, 0, none⟩ = false := hbx3.free 0
            have fx1 : wr.frozen? ⟨w.heap.size, 1, none⟩ = false := hbx3.free 1
            by_cases hk3 : k2 < l.length ∧ (∀ h : k2 < l.length, l[k2].1 ≤ q)
            · obtain ⟨hlt3, h3⟩ := hk3
              have h3 := h3 hlt3
              obtain ⟨b3, off3, hA3, hbw3, hc13, hc23⟩ := (hr.below hbel3).at_ hlt3
              try cases hA3
              try subst hA3
              obtain ⟨⟨p3, q3⟩, hx3⟩ : ∃ z, z = l[k2] := ⟨_, rfl⟩
              have hg4 := Lib.hid (hg3.out.trans (by rw [ins2_step hlt3 (p, q) h3]))
              have hd3 : decide (l[k2].1 ≤ q) = true := by simpa using h3
              rw [← hx3] at hc13 hc23 hd3 hg4
              clear h3 hg3 HF
              have hx3 := Lib.hid hx3
              dsimp only at hc13 hc23 hd3 hg4
              go_wp2_with fail
              go_quiet (fail)
              go_wp2_with fail
              obtain ⟨M1, hM1⟩ : ∃ M, M = min p p3 := ⟨_, rfl⟩
              have hm1 : (if p3 < p then p3 else p) = M1 := by rw [hM1]; split <;> omega
              obtain ⟨M2, hM2⟩ : ∃ M, M = max q q3 := ⟨_, rfl⟩
              have hm2 : (if q < q3 then q3 else q) = M2 := by rw [hM2]; split <;> omega
              have hg5 : Hid (G = l.take k ++ ins2 (l.drop (k2 + 1)) (M1, M2)) := Lib.hid (by rw [hM1, hM2]; exact hg4.out)
              clear hM1 hM2 hg4
              go_region
              have hbx4 := (hbx3.draws (nq + 1)).put 0 (I M1)
              have hbel4 := (bel_draws hbel3 (nq + 1)).setCell (p := ⟨w.heap.size, 0, none⟩) (Nat.le_refl _) (I M1)
              have ho4 := (ho3.draws (nq + 1)).put (g := w.heap.size) 0 (Nat.lt_succ_self _) (I M1)
              obtain ⟨w4, hw4⟩ : ∃ w4, w4 = (wr.drewN (nq + 1)).setCell ⟨w.heap.size, 0, none⟩ (I M1) := ⟨_, rfl⟩
              rw [← hw4] at hbx4 hbel4 ho4 ⊢
              clear hw4 ho3 hbx3 hbel3 cx0 cx1 fx0 fx1
              have hbx5 : Cel w4 w.heap.size 24 #[I M1, I q] := hbx4
              have cy1 : w4.cell? ⟨w.heap.size, 1, none⟩ = some (I q) := hbx5.cell 1
              have fy1 : w4.frozen? ⟨w.heap.size, 1, none⟩ = false := hbx5.free 1
              obtain ⟨b4, off4, hA4, hbw4, hc14, hc24⟩ := (hr.below hbel4).at_ hlt3
              cases hA4
              rw [← hx3.out] at hc14 hc24
              dsimp only at hc14 hc24
              clear hx3
              go_wp2_with fail
              go_region
              have hbx6 := hbx5.put 1 (I M2)
              have hbel6 := bel_drew (hbel4.setCell (p := ⟨w.heap.size, 1, none⟩) (Nat.le_refl _) (I M2))
              have ho6 := (ho4.put (g := w.heap.size) 1 (Nat.lt_succ_self _) (I M2)).drew
              go_wp2_with fail
              go_roundw
              case rel => exact ⟨k2 + 1, M1, M2, hlt3, by simp, ho6, hbx6, hbel6, hg5⟩
              case measure => simp [intOf]; omega
            · have hfin3 : G = l.take k ++ [(p, q)] ++ l.drop k2 := by
                rw [hg3.out]
                rcases Nat.lt_or_ge k2 l.length with hlt | hlt
                · rw [ins2_end hlt _ (fun h3 => hk3 ⟨hlt, fun _ => h3⟩)]; simp
                · rw [List.drop_eq_nil_of_le hlt]; simp [ins2]
              have HF3 := Lib.hid hfin3
              clear hfin3 hg3 HF
              have hcase3 : (∃ b off, A' = some ⟨b, off, none⟩ ∧ ∃ p1 q1 : Int, wr.cell? ⟨b, off + k2 * 2, none⟩ = some (I p1) ∧ wr.cell? ⟨b, off + k2 * 2 + 1, none⟩ = some (I q1) ∧ decide ((k2 : Int) < (l.length : Int)) = true ∧ decide (p1 ≤ q) = false ∧ k2 < l.length) ∨
                  (decide (k2 < l.length) = false ∧ k2 = l.length) := by
                rcases Nat.lt_or_ge k2 l.length with hlt | hlt
                · obtain ⟨b, off, e, hbw, hc1', hc2'⟩ := (hr.below hbel3).at_ hlt
                  exact .inl ⟨b, off, HA.out.trans e, _, _, hc1', hc2', by simpa using hlt, decide_eq_false fun h3 => hk3 ⟨hlt, fun _ => h3⟩, hlt⟩
                · exact .inr ⟨by simpa using hlt, by omega⟩
              clear hk3
              have htl : (l.drop k2).length = l.length - k2 := List.length_drop
              have hsz3 := hbx3.lt
              have hfl : (l.take k ++ [(p, q)]).length ≤ 1099511627777 := by rw [List.length_append, List.length_take]; simp; omega
              rcases hcase3 with ⟨b4, off4, hA4, p4, q4, hc14, hc24, hd13, hd23, hlt3⟩ | ⟨hd13, hke3⟩
              · have hA4 := HA.out.symm.trans hA4
                cases hA4
                clear HA
                go_wp2_with fail
                go_quiet (fail)
                go_wp2_with (first
                  | (at_builtin; refine wpList_rapp _ is_ranges rfl (.tmp 70) (.tmp 72) rfl rfl ((ho3.draws _).alloc _) (l := [(p, q)]) rfl (Rs_new1 _ _ _ _) (by simp) (by rw [List.length_take]; simp; omega) (by simp; omega) ?_; intro v2 w2 hown2 hg2 hv2; have hb2 := app_below (bel_draws hbel3 nq) (by simp; omega) (by omega) (ho3.draws nq) hg2)
                  | (at_builtin; refine wpList_rapp_n _ is_ranges rfl (.tmp 74) (.tmp 77) rfl rfl hown2 htl rfl ((hr.below hb2).drop k2) (by simp) (by rw [htl]; omega) (by have := hg2.size; simp at this; omega) ?_; intro v3 w3 hown3 hg3 hv3))
                go_ret
                exact ⟨_, rfl, by rw [HF3.out]; exact hown3.more (by omega), hb2.grown hg3 (by have := hg2.size; simp at this; omega) (fun i hi => by have := hown2.base_le i hi; omega)⟩
              · have hnil : l.drop k2 = [] := List.drop_eq_nil_of_le (by omega)
                rw [hnil] at HF3
                have h00 : l.length - k2 = 0 := by omega
                clear HA htl
                have fin : ∀ (nq : Nat) (a1 a2 : Value) (w2 w3 : World) (C : Array Value), ((wr.drewN nq).alloc (.cells C 24)).grownBy w2 u5.ownBlock → Os w2 (w.heap.size + 1) 24 a1 (l.take k ++ [(p, q)]) → Os w3 (w.heap.size + 1) 24 a2 (l.take k ++ [(p, q)] ++ []) → w2.grownBy w3 a1.ownBlock →
                    Os w3 base 24 a2 G ∧ Below w.heap.size w w3 := fun nq a1 a2 w2 w3 C hg2 hown2 hown3 hg3 =>
                  have hb2 := app_below (bel_draws hbel3 nq) (by simp; omega) (by omega) (ho3.draws nq) hg2
                  ⟨by rw [HF3.out]; exact hown3.more (by omega), hb2.grown hg3 (by have := hg2.size; simp at this; omega) (fun i hi => by have := hown2.base_le i hi; omega)⟩
                rcases hA0 with ⟨hA0, hc0⟩ | ⟨g0, hA0⟩
                all_goals cases hA0
                all_goals rcases Nat.eq_or_lt_of_le hc1 with hcap | hcap
                all_goals try (exfalso; omega)
                all_goals
                  try subst hc0
                  go_wp2_with fail
                  go_quiet (fail)
                  go_wp2_with (first
                    | (at_builtin; refine wpList_rapp _ is_ranges rfl (.tmp 70) (.tmp 72) rfl rfl ((ho3.draws _).alloc _) (l := [(p, q)]) rfl (Rs_new1 _ _ _ _) (by simp) (by rw [List.length_take]; simp; omega) (by simp; omega) ?_; intro v2 w2 hown2 hg2 hv2)
                    | (at_builtin; refine wpList_rapp_n _ is_ranges rfl (.tmp 74) (.tmp 77) rfl rfl hown2 (l := []) (n := 0) rfl rfl (B := 0) Rs.nil_ (by first | (intro h; cases h; done) | (intro h; rfl)) (by simp; omega) (by have := hg2.size; simp at this; omega) ?_; intro v3 w3 hown3 hg3 hv3))
                  go_ret
                  exact ⟨_, rfl, fin _ _ _ _ _ _ hg2 hown2 hown3 hg3⟩
end Go.Proofs.Ytgomcilmhlafcaa.Rng
