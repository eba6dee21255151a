/-
  Package ranges: join.
-/
import Derived.Test.YtaaikmncdgfkmaaRngW0
import Derived.BigQuiet
namespace Go.Proofs.Ytaaikmncdgfkmaa.Rng
open Go.RowKit

/-- what a call leaves that may write a slice of the caller's own, or make a new one: of the old blocks it may have turned that slice's own alone -/
structure Made (w w' : World) (base : Nat) (v v' : Value) (l : List R) : Prop where
  own : Os w' base 62 v' l
  only : Only v.ownBlock.toList w w'
  at_ : ∀ g, v'.ownBlock = some g → v.ownBlock = some g ∨ w.heap.size ≤ g

theorem Only.alloc0 (S : List Nat) (w : World) (o : Obj) : Only S w (w.alloc o) := (Only.refl S w).alloc o

/-- an append of one range, laid in a block of its own -/
theorem Made.app {w w1 w2 : World} {base : Nat} {v v' : Value} {l' : List R} {C : Array Value} (h1 : Only v.ownBlock.toList w w1)
    (h2 : Os w2 base 62 v' l') (hg : (w1.alloc (.cells C 62)).grownBy w2 v.ownBlock) (hv : v'.ownBlock = v.ownBlock ∨ v'.ownBlock = some (w1.alloc (.cells C 62)).heap.size) :
    Made w w2 base v v' l' := by
  refine ⟨h2, (h1.alloc _).trans (Only.of_grown hg) (fun x hx => .inl hx), fun g hgv => ?_⟩
  have := h1.size
  rcases hv with hv | hv
  · exact .inl (hv ▸ hgv)
  · rw [hv] at hgv; injection hgv with hgv; subst hgv; exact .inr (by simp; omega)

set_option maxHeartbeats 2000000 in
theorem join_any (m : List R) (x y : Int) (w : World) (base : Nat) (v : Value) (h : Os w base 62 v m) (hb : base ≤ w.heap.size) (hl : m.length ≤ 1099511627776) :
    Calls Try.prog 62 #[v, .agg #[I x, I y]] w fun e w' => ∃ v', e = .returned v' ∧ Made w w' base v v' (join m (x, y)) := by
  obtain ⟨A, c, hv, hr, hn, hc1, hc2⟩ := h.reads
  obtain ⟨w1, hw1⟩ : ∃ w1, w1 = (w.alloc (.cells #[I x, I y] 62)).alloc (.cells #[I x, I y] 62) := ⟨_, rfl⟩
  have o1 : Only v.ownBlock.toList w w1 := by rw [hw1]; exact ((Only.refl _ w).alloc _).alloc _
  have own1 : Os w1 base 62 v m := by rw [hw1]; exact (h.alloc _).alloc _
  have bx : Cel w1 w.heap.size 62 #[I x, I y] := by rw [hw1]; exact (Cel.new w _ _).only ((Only.refl [] _).alloc _) (by simp)
  have hs1 : base ≤ w1.heap.size := Nat.le_trans hb o1.size
  have bx0 : w1.cell? ⟨w.heap.size, 0, none⟩ = some (I x) := bx.cell 0
  have bx1 : w1.cell? ⟨w.heap.size, 1, none⟩ = some (I y) := bx.cell 1
  have hcall := empty_any x y (w.alloc (.cells #[I x, I y] 62))
  rw [← hw1] at hcall
  clear hw1
  rcases Int.lt_or_le x y with hxy | hxy
  · have he : emp (x, y) = false := by simp [emp]; omega
    rw [he] at hcall
    rcases List.eq_nil_or_concat m with rfl | ⟨u, t, rfl⟩
    · rw [join_nil hxy]
      simp only [List.length_nil] at hv
      subst hv
      clear hxy he h hr
      go_enter Try.func62, Try.ntmps62
      go_wp2_with (go_at_call 67; refine hcall.mono ?_; rintro e w' ⟨rfl, rfl⟩)
      go_quiet (fail)
      go_wp2_with (first
        | (at_builtin; refine wpList_rapp _ is_ranges rfl (.tmp 24) (.tmp 26) rfl (v := Value.slice A 0 c) (m := []) rfl (own1.alloc _) (l := [(x, y)]) rfl (Rs_new1 _ _ _ _) (by simp) (by simp) (by simp; omega) ?_; intro v2 w2 hown2 hg2 hv2))
      go_ret
      exact ⟨_, rfl, Made.app (o1.draws _) hown2 hg2 hv2⟩
    · rw [List.concat_eq_append] at hv h own1 hr hc1 hl ⊢
      rw [join_snoc hxy]
      obtain ⟨g, c', hv', hg1, hg2, _, _, hcl, hfr⟩ := own1.form (m := u.length) (by simp)
      rw [hv'] at h own1 o1 ⊢
      clear hv hr hc1
      have hct := hcl u.length t (by simp)
      have hc0 := hct.1
      have hcT := hct.2
      have hfr1 := hfr (u.length * 2 + 1)
      obtain ⟨U, hU⟩ : ∃ U, U = u.length := ⟨_, rfl⟩
      have hUl : U ≤ 1099511627776 := by rw [hU]; simp at hl; omega
      have HU := Lib.hid hU
      rw [← hU] at hc0 hcT hfr1 own1 o1 ⊢
      have hd0 : decide ((U : Int) < 0) = false := by simp
      have hgx : g ≠ w.heap.size := by
        intro e
        have := (World.ownsRow.lt h) g rfl
        omega
      by_cases hlt : t.2 < x
      · rw [if_pos hlt]
        have hd : decide (t.2 < x) = true := by simpa using hlt
        have hlen : (u ++ [t]).length = U + 1 := by simp [hU]
        clear hU hct hcl hfr
        clear hxy he h
        go_enter Try.func62, Try.ntmps62
        go_wp2_with (go_at_call 67; refine hcall.mono ?_; rintro e w' ⟨rfl, rfl⟩)
        go_quiet (fail)
        go_wp2_with (first
          | (at_builtin; refine wpList_rapp _ is_ranges rfl (.tmp 24) (.tmp 26) rfl (v := Value.slice (some ⟨g, 0, none⟩) (U + 1) c') (m := u ++ [t]) rfl ((own1.draws _).alloc _) (l := [(x, y)]) rfl (Rs_new1 _ _ _ _) (by simp) (by rw [hlen]; simp; omega) (by simp; omega) ?_; intro v2 w2 hown2 hg2 hv2))
        go_ret
        exact ⟨_, rfl, Made.app (o1.draws _) hown2 hg2 hv2⟩
      · rw [if_neg hlt]
        have hd : decide (t.2 < x) = false := by simpa using hlt
        obtain ⟨M, hM⟩ : ∃ M, M = max t.2 y := ⟨_, rfl⟩
        have hM3 : (if t.2 < y then y else t.2) = M := by rw [hM]; split <;> omega
        have hset := fun n => Os.set_ (own1.draws n) (gr := g) rfl (i := U) (x := t) (by rw [hU]; simp) M
        have hlast : (u ++ [t]).set U (t.1, M) = u ++ [(t.1, M)] := by rw [hU]; simp
        rw [hlast] at hset
        have oset := fun n => (o1.draws n).put (p := ⟨g, U * 2 + 1, none⟩) (.inl (by simp [Value.ownBlock])) (I M)
        have hM2 : max t.2 y = M := hM.symm
        rw [hM2]
        clear hM2
        clear hU hct hcl hfr
        clear hxy he h hM
        go_enter Try.func62, Try.ntmps62
        go_wp2_with (go_at_call 67; refine hcall.mono ?_; rintro e w' ⟨rfl, rfl⟩)
        go_quiet (fail)
        go_wp2
        go_region
        go_wp2
        go_ret
        exact ⟨_, rfl, hset _, oset _, fun _ hg => .inl hg⟩
  · have he : emp (x, y) = true := by simp [emp]; omega
    rw [he] at hcall
    rw [join_emp hxy]
    clear hxy he
    subst hv
    go_enter Try.func62, Try.ntmps62
    go_wp2_with (go_at_call 67; refine hcall.mono ?_; rintro e w' ⟨rfl, rfl⟩)
    go_ret
    exact ⟨_, rfl, own1, o1, fun g hg => .inl hg⟩
end Go.Proofs.Ytaaikmncdgfkmaa.Rng
