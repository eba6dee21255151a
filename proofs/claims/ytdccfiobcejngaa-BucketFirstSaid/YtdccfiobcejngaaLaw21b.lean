/-
  The laws of layer 21: a step on both buckets.
-/
import Derived.Test.YtdccfiobcejngaaLaw21a
import Derived.Test.YtdccfiobcejngaaHand
namespace Go.Proofs.Ytdccfiobcejngaa.Buc
open Go.RowKit

/-- the program's bucket at g, the reference's at x, in one state -/
structure SX (w : World) (g x : Nat) (s : BS) : Prop where
  b : BW w g s
  x : XW w x s
section
variable {w w' : World} {g x : Nat} {s : BS} {S : List Nat}
theorem SX.ne (h : SX w g x s) : g ≠ x := Cel.apart (t := 47) (t' := 26) h.b.cel h.x.cel (by decide)
theorem SX.only (h : SX w g x s) (k : Only S w w') (hg : g ∉ S) (hx : x ∉ S) : SX w' g x s := ⟨h.b.only k hg, h.x.only k hx⟩
theorem SX.below (h : SX w g x s) (k : Below w.heap.size w w') : SX w' g x s := ⟨h.b.below k, h.x.below k⟩
theorem SX.draws (h : SX w g x s) (n : Nat) : SX (w.drewN n) g x s := ⟨h.b.draws n, h.x.draws n⟩
theorem SX.drew (h : SX w g x s) : SX w.drew g x s := ⟨⟨h.b.cel, h.b.ok⟩, ⟨h.x.cel, h.x.ok⟩⟩
theorem only_two {w w1 w2 : World} (h : Only [g] w w1) (k : Only [x] w1 w2) : Only [g, x] w w2 :=
  (h.more (T := [g, x]) (fun i hi => .inl (by simp at hi ⊢; exact .inl hi))).trans k (fun i hi => .inl (by simp at hi ⊢; exact .inr hi))
end

set_option maxRecDepth 100000 in
set_option maxHeartbeats 8000000 in
theorem step_any (k n m : Int) (w : World) (g x : Nat) (s : BS) (h : SX w g x s) (k0 : 0 ≤ k) :
    Calls Try.prog 11 #[.pointer (some ⟨g, 0, none⟩), .pointer (some ⟨x, 0, none⟩), .agg #[.int .u8 k, .int .i64 n, .int .i64 m]] w fun e w' => e = .returned (.bool true) ∧ ∃ s', SX w' g x s' ∧ Only [g, x] w w' := by
  obtain ⟨p, hp⟩ : ∃ p, p = w.heap.size := ⟨_, rfl⟩
  obtain ⟨w1, hw1⟩ : ∃ w1, w1 = w.alloc (.cells #[.int .u8 k, .int .i64 n, .int .i64 m] 32) := ⟨_, rfl⟩
  have b1 : Below w.heap.size w w1 := by rw [hw1]; exact bel_new _ _
  have p1 : Cel w1 p 32 #[.int .u8 k, .int .i64 n, .int .i64 m] := by rw [hw1, hp]; exact Cel.new _ _ _
  have q1 := h.below b1
  have gp : p ≠ g := by have := h.b.lt; omega
  have xp : p ≠ x := by have := h.x.lt; omega
  have ne := h.ne
  have bb1 : Only [g, x] w w1 := Only.of_below b1
  have z0 := p1.cell 0
  have z1 := p1.cell 1
  have z2 := p1.cell 2
  simp at z0 z1 z2
  rw [hw1, hp] at z0
  obtain ⟨R, hR⟩ : ∃ R, R = k % 3 := ⟨_, rfl⟩
  have t1 : k.tmod 3 = R := by rw [Int.tmod_eq_emod_of_nonneg k0]; exact hR.symm
  have t2 : k % 3 = R := hR.symm
  have cases3 : R = 0 ∧ (R == 0) = true ∨ (R == 0) = false ∧ (R == 1) = true ∨ (R == 0) = false ∧ (R == 1) = false := by
    rcases (show R = 0 ∨ R = 1 ∨ R = 2 by omega) with h | h | h <;> (rw [h]; simp)
  have r0 : 0 ≤ R := by omega
  have r1 : R ≤ 2 := by omega
  have onw : ∀ W, Only [g] w1 W → Cel W p 32 #[.int .u8 k, .int .i64 n, .int .i64 m] := fun W o => p1.only o (by simpa using gp)
  clear h b1
  clear hR t2
  rcases cases3 with ⟨_, e0⟩ | ⟨e0, e1⟩ | ⟨e0, e1⟩
  · skip
    go_enter Try.func11, Try.ntmps11
    go_wp2_with fail
    rw [← hp, ← hw1]
    clear hw1 z0 hp
    have xb := btake_any n m w1.drew g s q1.drew.b
    have xx := fun W (hW : XW W x s) => xtake_any n m W x s hW
    obtain ⟨T, hT⟩ : ∃ T, T = tkB (adv s m) n := ⟨_, rfl⟩
    rw [← hT] at xb xx
    have v1 : (T == T) = true := by simp
    have od : Only [g] w1 w1.drew := (Only.refl [g] w1).drew
    clear hT
    refine wp_region_held_drew (S := fun W => W.cell? ⟨p, 1, none⟩ = some (.int .i64 n) ∧ W.cell? ⟨p, 2, none⟩ = some (.int .i64 m)) (by kernel_rfl) (⟨z1, z2⟩) (fun hHeld => ?_)
    refine wpAnyH_here 0 (v := ?_) rfl (by kernel_rfl) (by kernel_rfl) (by kernel_rfl) (fun _ _ _ h => h) (Or.inl ⟨by rfl, ?_⟩) hHeld ?_
    rotate_left
    · intro w hSw; (try dsimp only at hSw); go_simp; all_goals (with_reducible rfl)
    try simp only [Act.put, List.setIfInBounds_toArray, List.set_cons_zero, List.set_cons_succ]
    refine wpAnyH_here 1 (v := ?_) rfl (by kernel_rfl) (by kernel_rfl) (by kernel_rfl) (fun _ _ _ h => h) (Or.inl ⟨by rfl, ?_⟩) hHeld ?_
    rotate_left
    · intro w hSw; (try dsimp only at hSw); go_simp; all_goals (with_reducible rfl)
    try simp only [Act.put, List.setIfInBounds_toArray, List.set_cons_zero, List.set_cons_succ]
    refine wpAnyH_here 2 (v := ?_) rfl (by kernel_rfl) (by kernel_rfl) (by kernel_rfl) (fun _ _ _ h => h) (Or.inl ⟨by rfl, ?_⟩) hHeld ?_
    rotate_left
    · intro w hSw; (try dsimp only at hSw); go_simp; all_goals (with_reducible rfl)
    try simp only [Act.put, List.setIfInBounds_toArray, List.set_cons_zero, List.set_cons_succ]
    refine wpAnyH_here 3 (v := ?_) rfl (by kernel_rfl) (by kernel_rfl) (by kernel_rfl) (fun _ _ _ h => h) (Or.inl ⟨by rfl, ?_⟩) hHeld ?_
    rotate_left
    · intro w hSw; (try dsimp only at hSw); go_simp; all_goals (with_reducible rfl)
    try simp only [Act.put, List.setIfInBounds_toArray, List.set_cons_zero, List.set_cons_succ]
    refine wpAnyH_here 4 (v := ?_) rfl (by kernel_rfl) (by kernel_rfl) (by kernel_rfl) (fun _ _ _ h => h) (Or.inl ⟨by rfl, ?_⟩) hHeld ?_
    rotate_left
    · intro w hSw; (try dsimp only at hSw); go_simp; all_goals (with_reducible rfl)
    try simp only [Act.put, List.setIfInBounds_toArray, List.set_cons_zero, List.set_cons_succ]
    refine wpAnyH_here 6 (v := ?_) rfl (by kernel_rfl) (by kernel_rfl) (by kernel_rfl) (fun _ _ _ h => h) (Or.inl ⟨by rfl, ?_⟩) hHeld ?_
    rotate_left
    · intro w hSw; (try dsimp only at hSw); go_simp; all_goals (with_reducible rfl)
    try simp only [Act.put, List.setIfInBounds_toArray, List.set_cons_zero, List.set_cons_succ]
    refine wpAnyH_here 7 (v := ?_) rfl (by kernel_rfl) (by kernel_rfl) (by kernel_rfl) (fun _ _ _ h => h) (Or.inl ⟨by rfl, ?_⟩) hHeld ?_
    rotate_left
    · intro w hSw; (try dsimp only at hSw); go_simp; all_goals (with_reducible rfl)
    try simp only [Act.put, List.setIfInBounds_toArray, List.set_cons_zero, List.set_cons_succ]
    refine wpAnyH_here 8 (v := ?_) rfl (by kernel_rfl) (by kernel_rfl) (by kernel_rfl) (fun _ _ _ h => h) (Or.inl ⟨by rfl, ?_⟩) hHeld ?_
    rotate_left
    · intro w hSw; (try dsimp only at hSw); go_simp; all_goals (with_reducible rfl)
    try simp only [Act.put, List.setIfInBounds_toArray, List.set_cons_zero, List.set_cons_succ]
    refine wpAnyH_here 9 (v := ?_) rfl (by kernel_rfl) (by kernel_rfl) (by kernel_rfl) (fun _ _ _ h => h) (Or.inl ⟨by rfl, ?_⟩) hHeld ?_
    rotate_left
    · intro w hSw; (try dsimp only at hSw); go_simp; all_goals (with_reducible rfl)
    try simp only [Act.put, List.setIfInBounds_toArray, List.set_cons_zero, List.set_cons_succ]
    refine wpAnyH_here 10 (v := ?_) rfl (by kernel_rfl) (by kernel_rfl) (by kernel_rfl) (fun _ _ _ h => h) (Or.inl ⟨by rfl, ?_⟩) hHeld ?_
    rotate_left
    · intro w hSw; (try dsimp only at hSw); go_simp; all_goals (with_reducible rfl)
    try simp only [Act.put, List.setIfInBounds_toArray, List.set_cons_zero, List.set_cons_succ]
    refine wpAnyH_alone 5 rfl (by kernel_rfl) (fun K hK => ?_)
    go_simp
    refine xb.mono ?_; rintro e w2 ⟨rfl, B2, o2⟩; have o2' := only_then od o2; have p2 := onw _ o2'; have y1 := p2.cell 1; have y2 := p2.cell 2; simp at y1 y2; have X2 := q1.x.only o2' (by simpa using Ne.symm ne)
    refine hK.out _ _ (⟨y1, y2⟩) (fun hHeld => ?_)
    clear hK K
    try simp only [Act.put, List.setIfInBounds_toArray, List.set_cons_zero, List.set_cons_succ]
    refine wpAnyH_alone 11 rfl (by kernel_rfl) (fun K hK => ?_)
    go_simp
    refine (xx _ X2).mono ?_; rintro e w3 ⟨rfl, X3, o3⟩; have B3 := B2.only o3 (by simpa using ne); have p3 := p2.only o3 (by simpa using xp); have y3 := p3.cell 1; have y4 := p3.cell 2; simp at y3 y4
    refine hK.out _ _ (⟨y3, y4⟩) (fun hHeld => ?_)
    clear hK K
    try simp only [Act.put, List.setIfInBounds_toArray, List.set_cons_zero, List.set_cons_succ]
    refine wpAnyH_here 12 (v := ?_) rfl (by kernel_rfl) (by kernel_rfl) (by kernel_rfl) (fun _ _ _ h => h) (Or.inl ⟨by rfl, ?_⟩) hHeld ?_
    rotate_left
    · intro w hSw; (try dsimp only at hSw); go_simp; all_goals (with_reducible rfl)
    try simp only [Act.put, List.setIfInBounds_toArray, List.set_cons_zero, List.set_cons_succ]
    refine wpAnyH_here 13 (v := ?_) rfl (by kernel_rfl) (by kernel_rfl) (by kernel_rfl) (fun _ _ _ h => h) (Or.inl ⟨by rfl, ?_⟩) hHeld ?_
    rotate_left
    · intro w hSw; (try dsimp only at hSw); go_simp; all_goals (with_reducible rfl)
    try simp only [Act.put, List.setIfInBounds_toArray, List.set_cons_zero, List.set_cons_succ]
    refine wpAnyH_done (by kernel_rfl) ?_ _
    go_wp2
    go_ret
    exact ⟨rfl, _, ⟨B3, X3⟩, bb1.trans (only_two o2' o3) (fun i hi => .inl hi)⟩
  · skip
    go_enter Try.func11, Try.ntmps11
    go_wp2_with fail
    rw [← hp, ← hw1]
    clear hw1 z0 hp
    have xb := blevel_any m w1.drew g s q1.drew.b
    have xx := fun W (hW : XW W x s) => xlevel_any m W x s hW
    obtain ⟨T, hT⟩ : ∃ T, T = (adv s m).v := ⟨_, rfl⟩
    rw [← hT] at xb xx
    have v1 : (T == T) = true := by simp
    have od : Only [g] w1 w1.drew := (Only.refl [g] w1).drew
    clear hT
    refine wp_region_held_drew (S := fun W => W.cell? ⟨p, 1, none⟩ = some (.int .i64 n) ∧ W.cell? ⟨p, 2, none⟩ = some (.int .i64 m)) (by kernel_rfl) (⟨z1, z2⟩) (fun hHeld => ?_)
    refine wpAnyH_here 0 (v := ?_) rfl (by kernel_rfl) (by kernel_rfl) (by kernel_rfl) (fun _ _ _ h => h) (Or.inl ⟨by rfl, ?_⟩) hHeld ?_
    rotate_left
    · intro w hSw; (try dsimp only at hSw); go_simp; all_goals (with_reducible rfl)
    try simp only [Act.put, List.setIfInBounds_toArray, List.set_cons_zero, List.set_cons_succ]
    refine wpAnyH_here 1 (v := ?_) rfl (by kernel_rfl) (by kernel_rfl) (by kernel_rfl) (fun _ _ _ h => h) (Or.inl ⟨by rfl, ?_⟩) hHeld ?_
    rotate_left
    · intro w hSw; (try dsimp only at hSw); go_simp; all_goals (with_reducible rfl)
    try simp only [Act.put, List.setIfInBounds_toArray, List.set_cons_zero, List.set_cons_succ]
    refine wpAnyH_here 2 (v := ?_) rfl (by kernel_rfl) (by kernel_rfl) (by kernel_rfl) (fun _ _ _ h => h) (Or.inl ⟨by rfl, ?_⟩) hHeld ?_
    rotate_left
    · intro w hSw; (try dsimp only at hSw); go_simp; all_goals (with_reducible rfl)
    try simp only [Act.put, List.setIfInBounds_toArray, List.set_cons_zero, List.set_cons_succ]
    refine wpAnyH_here 4 (v := ?_) rfl (by kernel_rfl) (by kernel_rfl) (by kernel_rfl) (fun _ _ _ h => h) (Or.inl ⟨by rfl, ?_⟩) hHeld ?_
    rotate_left
    · intro w hSw; (try dsimp only at hSw); go_simp; all_goals (with_reducible rfl)
    try simp only [Act.put, List.setIfInBounds_toArray, List.set_cons_zero, List.set_cons_succ]
    refine wpAnyH_here 5 (v := ?_) rfl (by kernel_rfl) (by kernel_rfl) (by kernel_rfl) (fun _ _ _ h => h) (Or.inl ⟨by rfl, ?_⟩) hHeld ?_
    rotate_left
    · intro w hSw; (try dsimp only at hSw); go_simp; all_goals (with_reducible rfl)
    try simp only [Act.put, List.setIfInBounds_toArray, List.set_cons_zero, List.set_cons_succ]
    refine wpAnyH_here 6 (v := ?_) rfl (by kernel_rfl) (by kernel_rfl) (by kernel_rfl) (fun _ _ _ h => h) (Or.inl ⟨by rfl, ?_⟩) hHeld ?_
    rotate_left
    · intro w hSw; (try dsimp only at hSw); go_simp; all_goals (with_reducible rfl)
    try simp only [Act.put, List.setIfInBounds_toArray, List.set_cons_zero, List.set_cons_succ]
    refine wpAnyH_alone 3 rfl (by kernel_rfl) (fun K hK => ?_)
    go_simp
    refine xb.mono ?_; rintro e w2 ⟨rfl, B2, o2⟩; have o2' := only_then od o2; have p2 := onw _ o2'; have y1 := p2.cell 1; have y2 := p2.cell 2; simp at y1 y2; have X2 := q1.x.only o2' (by simpa using Ne.symm ne)
    refine hK.out _ _ (⟨y1, y2⟩) (fun hHeld => ?_)
    clear hK K
    try simp only [Act.put, List.setIfInBounds_toArray, List.set_cons_zero, List.set_cons_succ]
    refine wpAnyH_alone 7 rfl (by kernel_rfl) (fun K hK => ?_)
    go_simp
    refine (xx _ X2).mono ?_; rintro e w3 ⟨rfl, X3, o3⟩; have B3 := B2.only o3 (by simpa using ne); have p3 := p2.only o3 (by simpa using xp); have y3 := p3.cell 1; have y4 := p3.cell 2; simp at y3 y4
    refine hK.out _ _ (⟨y3, y4⟩) (fun hHeld => ?_)
    clear hK K
    try simp only [Act.put, List.setIfInBounds_toArray, List.set_cons_zero, List.set_cons_succ]
    refine wpAnyH_here 8 (v := ?_) rfl (by kernel_rfl) (by kernel_rfl) (by kernel_rfl) (fun _ _ _ h => h) (Or.inl ⟨by rfl, ?_⟩) hHeld ?_
    rotate_left
    · intro w hSw; (try dsimp only at hSw); go_simp; all_goals (with_reducible rfl)
    try simp only [Act.put, List.setIfInBounds_toArray, List.set_cons_zero, List.set_cons_succ]
    refine wpAnyH_here 9 (v := ?_) rfl (by kernel_rfl) (by kernel_rfl) (by kernel_rfl) (fun _ _ _ h => h) (Or.inl ⟨by rfl, ?_⟩) hHeld ?_
    rotate_left
    · intro w hSw; (try dsimp only at hSw); go_simp; all_goals (with_reducible rfl)
    try simp only [Act.put, List.setIfInBounds_toArray, List.set_cons_zero, List.set_cons_succ]
    refine wpAnyH_done (by kernel_rfl) ?_ _
    go_wp2
    go_ret
    exact ⟨rfl, _, ⟨B3, X3⟩, bb1.trans (only_two o2' o3) (fun i hi => .inl hi)⟩
  · skip
    have xb := bwhen_any n m w1 g s q1.b
    have xx := fun W (hW : XW W x s) => xwhen_any n m W x s hW
    obtain ⟨T, hT⟩ : ∃ T, T = wn (adv s m) n := ⟨_, rfl⟩
    rw [← hT] at xb xx
    obtain ⟨T, o⟩ := T
    dsimp only at xb xx
    have v1 : (T == T) = true := by simp
    have v2 : (o == o) = true := by simp
    have zz1 := z1
    have zz2 := z2
    rw [hw1, hp] at z1 z2
    clear hT
    go_enter Try.func11, Try.ntmps11
    go_wp2_with fail
    rw [← hp, ← hw1]
    clear hw1 z0 z1 z2 hp
    refine xb.mono ?_
    rintro e w2 ⟨rfl, B2, o2⟩
    have p2 := onw _ o2
    have X2 := q1.x.only o2 (by simpa using Ne.symm ne)
    have z1 := p2.cell 1
    have z2 := p2.cell 2
    simp at z1 z2
    clear xb zz1 zz2 q1
    go_wp2_with fail
    refine (xx _ X2).mono ?_
    rintro e w3 ⟨rfl, X3, o3⟩
    have B3 := B2.only o3 (by simpa using ne)
    go_wp2
    go_ret
    exact ⟨rfl, _, ⟨B3, X3⟩, bb1.trans (only_two o2 o3) (fun i hi => .inl hi)⟩
end Go.Proofs.Ytdccfiobcejngaa.Buc
