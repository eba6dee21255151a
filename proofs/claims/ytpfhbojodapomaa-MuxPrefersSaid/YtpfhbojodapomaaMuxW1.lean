/-
  Package cmp at ints: Compare, Or; the comparison of two channels; that of two credits.
-/
import Derived.Sort.Grow
import Derived.Test.YtpfhbojodapomaaMuxW0
namespace Go.Proofs.Ytpfhbojodapomaa.Mux
open Go.RowKit Go.Shelf Go.Sort

def cmpI (x y : Int) : Int := if x < y then -1 else if y < x then 1 else 0
/-- by the priority, then by the number -/
def cmpC (x y : Ch) : Int := if cmpI x.pr y.pr ≠ 0 then cmpI x.pr y.pr else cmpI x.id y.id

set_option maxHeartbeats 400000 in
theorem isnan_any (x : Int) (w : World) : Calls Try.prog 32 #[I x] w fun e w' => e = .returned (.bool false) ∧ w = w' := by
  have h : (x != x) = false := by simp
  go_enter Try.func32, Try.ntmps32
  go_wp2
  go_ret
  exact ⟨rfl, rfl⟩
set_option maxHeartbeats 1000000 in
theorem compare_any (x y : Int) (w : World) : Calls Try.prog 21 #[I x, I y] w fun e w' => e = .returned (I (cmpI x y)) ∧ w = w' := by
  have hx := isnan_any x w
  have hy := isnan_any y w
  by_cases h1 : x < y
  · have e : cmpI x y = -1 := by unfold cmpI; rw [if_pos h1]
    rw [e]
    clear e
    go_enter Try.func21, Try.ntmps21
    go_wp2_with fail
    refine hx.mono ?_
    rintro e w1 ⟨rfl, rfl⟩
    go_wp2_with fail
    refine hy.mono ?_
    rintro e w1 ⟨rfl, rfl⟩
    go_wp2_with fail
    go_ret
    exact ⟨rfl, rfl⟩
  · by_cases h2 : y < x
    · have e : cmpI x y = 1 := by unfold cmpI; rw [if_neg h1, if_pos h2]
      rw [e]
      clear e h1
      have t1 : decide (x < y) = false := decide_eq_false (by omega)
      go_enter Try.func21, Try.ntmps21
      go_wp2_with fail
      refine hx.mono ?_
      rintro e w1 ⟨rfl, rfl⟩
      go_wp2_with fail
      refine hy.mono ?_
      rintro e w1 ⟨rfl, rfl⟩
      go_wp2_with fail
      go_ret
      exact ⟨rfl, rfl⟩
    · have e : cmpI x y = 0 := by unfold cmpI; rw [if_neg h1, if_neg h2]
      rw [e]
      clear e
      have t1 : decide (x < y) = false := decide_eq_false h1
      have t2 : decide (y < x) = false := decide_eq_false h2
      go_enter Try.func21, Try.ntmps21
      go_wp2_with fail
      refine hx.mono ?_
      rintro e w1 ⟨rfl, rfl⟩
      go_wp2_with fail
      refine hy.mono ?_
      rintro e w1 ⟨rfl, rfl⟩
      go_wp2_with fail
      go_ret
      exact ⟨rfl, rfl⟩
set_option maxHeartbeats 2000000 in
theorem or_any (a b V : Int) (g : Nat) (w : World) (hV : (if a ≠ 0 then a else b) = V) (h0 : w.cell? ⟨g, 0, none⟩ = some (I a)) (h1 : w.cell? ⟨g, 1, none⟩ = some (I b)) :
    Calls Try.prog 20 #[.slice (some ⟨g, 0, none⟩) 2 2] w fun e w' => e = .returned (I V) ∧ w = w' := by
  rw [← hV]
  clear hV
  by_cases ha : a = 0
  · have e : (if a ≠ 0 then a else b) = b := by rw [if_neg (by simpa using ha)]
    rw [e]
    have s1 : (a != 0) = false := by simpa using ha
    clear e ha
    by_cases hb : b = 0
    · have s2 : (b != 0) = false := by simpa using hb
      have HB := Lib.hid hb
      clear hb
      go_enter Try.func20, Try.ntmps20
      go_wp2
      go_loop [5, 8] (fun _ i => ∃ k : Nat, i = .int .i64 k ∧ k ≤ 2) (fun _ i => 2 - (intOf i).toNat)
      case atStart => exact ⟨0, rfl, by omega⟩
      case round =>
        obtain ⟨k, rfl, hk⟩ := hrel
        rcases (by omega : k = 0 ∨ k = 1 ∨ k = 2) with rfl | rfl | rfl
        · go_wp2
          go_round
          case rel => exact ⟨1, rfl, by omega⟩
          case measure => simp [intOf]
        · go_wp2
          go_round
          case rel => exact ⟨2, rfl, by omega⟩
          case measure => simp [intOf]
        · go_wp2
          go_ret
          exact ⟨by rw [HB.out]; rfl, rfl⟩
    · have s2 : (b != 0) = true := by simpa using hb
      clear hb
      go_enter Try.func20, Try.ntmps20
      go_wp2
      go_loop [5, 8] (fun _ i => ∃ k : Nat, i = .int .i64 k ∧ k ≤ 1) (fun _ i => 2 - (intOf i).toNat)
      case atStart => exact ⟨0, rfl, by omega⟩
      case round =>
        obtain ⟨k, rfl, hk⟩ := hrel
        rcases (by omega : k = 0 ∨ k = 1) with rfl | rfl
        · go_wp2
          go_round
          case rel => exact ⟨1, rfl, by omega⟩
          case measure => simp [intOf]
        · go_wp2
          go_ret
          exact ⟨rfl, rfl⟩
  · have e : (if a ≠ 0 then a else b) = a := by rw [if_pos (by simpa using ha)]
    rw [e]
    have s1 : (a != 0) = true := by simpa using ha
    clear e ha
    go_enter Try.func20, Try.ntmps20
    go_wp2
    go_loop [5, 8] (fun _ i => ∃ k : Nat, i = .int .i64 k ∧ k = 0) (fun _ i => 2 - (intOf i).toNat)
    case atStart => exact ⟨0, rfl, rfl⟩
    case round =>
      obtain ⟨k, rfl, rfl⟩ := hrel
      go_wp2
      go_ret
      exact ⟨rfl, rfl⟩

/-! ### the comparison of two channels -/
set_option maxHeartbeats 4000000 in
set_option maxRecDepth 100000 in
theorem cmp_chans (x y : Ch) (w : World) :
    Calls Try.prog 19 #[.agg #[I x.id, I x.pr, I x.wt, I x.cr, I x.sn], .agg #[I y.id, I y.pr, I y.wt, I y.cr, I y.sn]] w fun e w' => e = .returned (I (cmpC x y)) ∧ ∃ q os', w' = grow (w.drewN q) os' := by
  obtain ⟨V, hV⟩ : ∃ V, V = cmpC x y := ⟨_, rfl⟩
  obtain ⟨M, hM⟩ : ∃ M, M = cmpI x.pr y.pr := ⟨_, rfl⟩
  obtain ⟨N, hN⟩ : ∃ N, N = cmpI x.id y.id := ⟨_, rfl⟩
  have hVM : (if M ≠ 0 then M else N) = V := by rw [hV, hM, hN]; rfl
  have x1 := fun W => compare_any x.pr y.pr W
  have x2 := fun W => compare_any x.id y.id W
  rw [← hM] at x1
  rw [← hN] at x2
  rw [← hV]
  have HVM := Lib.hid hVM
  clear hV hM hN hVM
  obtain ⟨a, b, c, d, e⟩ := x
  obtain ⟨a2, b2, c2, d2, e2⟩ := y
  dsimp only at x1 x2 ⊢
  obtain ⟨W, hW⟩ : ∃ W, W = (w.alloc (.cells #[I a, I b, I c, I d, I e] 53)).alloc (.cells #[I a2, I b2, I c2, I d2, I e2] 53) := ⟨_, rfl⟩
  have hp2 : w.heap.size + 1 < W.heap.size := by rw [hW]; simp
  have k0 : W.cell? ⟨w.heap.size, 0, none⟩ = some (I a) := by rw [hW]; simp
  have k1 : W.cell? ⟨w.heap.size, 1, none⟩ = some (I b) := by rw [hW]; simp
  have k2 : W.cell? ⟨w.heap.size + 1, 0, none⟩ = some (I a2) := by rw [hW]; simp
  have k3 : W.cell? ⟨w.heap.size + 1, 1, none⟩ = some (I b2) := by rw [hW]; simp
  have m0 : (W.alloc (.cells #[I M, I N] 3)).drew.cell? ⟨w.heap.size, 0, none⟩ = some (I a) := (bel_new W _).cell (p := ⟨w.heap.size, 0, none⟩) (by show w.heap.size < W.heap.size; omega) |>.trans k0
  have m1 : (W.alloc (.cells #[I M, I N] 3)).drew.cell? ⟨w.heap.size, 1, none⟩ = some (I b) := (bel_new W _).cell (p := ⟨w.heap.size, 1, none⟩) (by show w.heap.size < W.heap.size; omega) |>.trans k1
  have m2 : (W.alloc (.cells #[I M, I N] 3)).drew.cell? ⟨w.heap.size + 1, 0, none⟩ = some (I a2) := (bel_new W _).cell (p := ⟨w.heap.size + 1, 0, none⟩) hp2 |>.trans k2
  have m3 : (W.alloc (.cells #[I M, I N] 3)).drew.cell? ⟨w.heap.size + 1, 1, none⟩ = some (I b2) := (bel_new W _).cell (p := ⟨w.heap.size + 1, 1, none⟩) hp2 |>.trans k3
  have m4 : (W.alloc (.cells #[I M, I N] 3)).drew.cell? ⟨W.heap.size, 0, none⟩ = some (I M) := by simp
  have m5 : (W.alloc (.cells #[I M, I N] 3)).drew.cell? ⟨W.heap.size, 1, none⟩ = some (I N) := by simp
  have hgr : ∃ q os', (W.alloc (.cells #[I M, I N] 3)).drew = grow (w.drewN q) os' := ⟨1, _, by rw [hW, alloc_eq_grow, alloc_eq_grow, alloc_eq_grow, grow_grow, grow_grow, drew_grow]; rfl⟩
  go_enter Try.func19, Try.ntmps19
  go_wp2_with fail
  rw [← hW]
  clear hW
  refine wp_region_held_drew (S := (fun w' => w'.cell? ⟨w.heap.size, 0, none⟩ = some (I a) ∧ w'.cell? ⟨w.heap.size, 1, none⟩ = some (I b) ∧ w'.cell? ⟨w.heap.size + 1, 0, none⟩ = some (I a2) ∧ w'.cell? ⟨w.heap.size + 1, 1, none⟩ = some (I b2))) (by kernel_rfl) (⟨k0, k1, k2, k3⟩) (fun hHeld => ?_)
  refine wpAnyH_here 0 (v := ?_) rfl (by kernel_rfl) (by kernel_rfl) (by kernel_rfl) (fun _ _ _ h => h) (Or.inl ⟨by rfl, ?_⟩) hHeld ?_
  rotate_left
  · intro w hSw; (try dsimp only at hSw); go_simp; all_goals (with_reducible rfl)
  try simp only [Act.put, List.setIfInBounds_toArray, List.set_cons_zero, List.set_cons_succ]
  refine wpAnyH_here 1 (v := ?_) rfl (by kernel_rfl) (by kernel_rfl) (by kernel_rfl) (fun _ _ _ h => h) (Or.inl ⟨by rfl, ?_⟩) hHeld ?_
  rotate_left
  · intro w hSw; (try dsimp only at hSw); go_simp; all_goals (with_reducible rfl)
  try simp only [Act.put, List.setIfInBounds_toArray, List.set_cons_zero, List.set_cons_succ]
  refine wpAnyH_here 2 (v := ?_) rfl (by kernel_rfl) (by kernel_rfl) (by kernel_rfl) (fun _ _ _ h => h) (Or.inl ⟨by rfl, ?_⟩) hHeld ?_
  rotate_left
  · intro w hSw; (try dsimp only at hSw); go_simp; all_goals (with_reducible rfl)
  try simp only [Act.put, List.setIfInBounds_toArray, List.set_cons_zero, List.set_cons_succ]
  refine wpAnyH_here 3 (v := ?_) rfl (by kernel_rfl) (by kernel_rfl) (by kernel_rfl) (fun _ _ _ h => h) (Or.inl ⟨by rfl, ?_⟩) hHeld ?_
  rotate_left
  · intro w hSw; (try dsimp only at hSw); go_simp; all_goals (with_reducible rfl)
  try simp only [Act.put, List.setIfInBounds_toArray, List.set_cons_zero, List.set_cons_succ]
  refine wpAnyH_here 4 (v := ?_) rfl (by kernel_rfl) (by kernel_rfl) (by kernel_rfl) (fun _ _ _ h => h) (Or.inl ⟨by rfl, ?_⟩) hHeld ?_
  rotate_left
  · intro w hSw; (try dsimp only at hSw); go_simp; all_goals (with_reducible rfl)
  try simp only [Act.put, List.setIfInBounds_toArray, List.set_cons_zero, List.set_cons_succ]
  refine wpAnyH_here 5 (v := ?_) rfl (by kernel_rfl) (by kernel_rfl) (by kernel_rfl) (fun _ _ _ h => h) (Or.inl ⟨by rfl, ?_⟩) hHeld ?_
  rotate_left
  · intro w hSw; (try dsimp only at hSw); go_simp; all_goals (with_reducible rfl)
  try simp only [Act.put, List.setIfInBounds_toArray, List.set_cons_zero, List.set_cons_succ]
  refine wpAnyH_here 7 (v := ?_) rfl (by kernel_rfl) (by kernel_rfl) (by kernel_rfl) (fun _ _ _ h => h) (Or.inl ⟨by rfl, ?_⟩) hHeld ?_
  rotate_left
  · intro w hSw; (try dsimp only at hSw); go_simp; all_goals (with_reducible rfl)
  try simp only [Act.put, List.setIfInBounds_toArray, List.set_cons_zero, List.set_cons_succ]
  refine wpAnyH_here 8 (v := ?_) rfl (by kernel_rfl) (by kernel_rfl) (by kernel_rfl) (fun _ _ _ h => h) (Or.inl ⟨by rfl, ?_⟩) hHeld ?_
  rotate_left
  · intro w hSw; (try dsimp only at hSw); go_simp; all_goals (with_reducible rfl)
  try simp only [Act.put, List.setIfInBounds_toArray, List.set_cons_zero, List.set_cons_succ]
  refine wpAnyH_here 9 (v := ?_) rfl (by kernel_rfl) (by kernel_rfl) (by kernel_rfl) (fun _ _ _ h => h) (Or.inl ⟨by rfl, ?_⟩) hHeld ?_
  rotate_left
  · intro w hSw; (try dsimp only at hSw); go_simp; all_goals (with_reducible rfl)
  try simp only [Act.put, List.setIfInBounds_toArray, List.set_cons_zero, List.set_cons_succ]
  refine wpAnyH_here 10 (v := ?_) rfl (by kernel_rfl) (by kernel_rfl) (by kernel_rfl) (fun _ _ _ h => h) (Or.inl ⟨by rfl, ?_⟩) hHeld ?_
  rotate_left
  · intro w hSw; (try dsimp only at hSw); go_simp; all_goals (with_reducible rfl)
  try simp only [Act.put, List.setIfInBounds_toArray, List.set_cons_zero, List.set_cons_succ]
  refine wpAnyH_here 11 (v := ?_) rfl (by kernel_rfl) (by kernel_rfl) (by kernel_rfl) (fun _ _ _ h => h) (Or.inl ⟨by rfl, ?_⟩) hHeld ?_
  rotate_left
  · intro w hSw; (try dsimp only at hSw); go_simp; all_goals (with_reducible rfl)
  try simp only [Act.put, List.setIfInBounds_toArray, List.set_cons_zero, List.set_cons_succ]
  refine wpAnyH_here 12 (v := ?_) rfl (by kernel_rfl) (by kernel_rfl) (by kernel_rfl) (fun _ _ _ h => h) (Or.inl ⟨by rfl, ?_⟩) hHeld ?_
  rotate_left
  · intro w hSw; (try dsimp only at hSw); go_simp; all_goals (with_reducible rfl)
  try simp only [Act.put, List.setIfInBounds_toArray, List.set_cons_zero, List.set_cons_succ]
  refine wpAnyH_alone 6 rfl (by kernel_rfl) (fun K hK => ?_)
  go_simp
  refine (x1 _).mono ?_; rintro e' w' ⟨rfl, rfl⟩
  refine hK.out _ _ (hHeld) (fun hHeld => ?_)
  clear hK K
  try simp only [Act.put, List.setIfInBounds_toArray, List.set_cons_zero, List.set_cons_succ]
  refine wpAnyH_alone 13 rfl (by kernel_rfl) (fun K hK => ?_)
  go_simp
  refine (x2 _).mono ?_; rintro e' w' ⟨rfl, rfl⟩
  refine hK.out _ _ (hHeld) (fun hHeld => ?_)
  clear hK K
  try simp only [Act.put, List.setIfInBounds_toArray, List.set_cons_zero, List.set_cons_succ]
  refine wpAnyH_alone 14 rfl (by kernel_rfl) (fun K hK => ?_)
  go_simp
  refine hK.out _ _ (⟨m0, m1, m2, m3⟩) (fun hHeld => ?_)
  clear hK K
  try simp only [Act.put, List.setIfInBounds_toArray, List.set_cons_zero, List.set_cons_succ]
  refine wpAnyH_alone 15 rfl (by kernel_rfl) (fun K hK => ?_)
  go_simp
  refine (or_any M N V W.heap.size _ HVM.out m4 m5).mono ?_; rintro e' w' ⟨rfl, rfl⟩
  refine hK.out _ _ (hHeld) (fun hHeld => ?_)
  clear hK K
  try simp only [Act.put, List.setIfInBounds_toArray, List.set_cons_zero, List.set_cons_succ]
  refine wpAnyH_here 16 (v := ?_) rfl (by kernel_rfl) (by kernel_rfl) (by kernel_rfl) (fun _ _ _ h => h) (Or.inl ⟨by rfl, ?_⟩) hHeld ?_
  rotate_left
  · intro w hSw; (try dsimp only at hSw); go_simp; all_goals (with_reducible rfl)
  try simp only [Act.put, List.setIfInBounds_toArray, List.set_cons_zero, List.set_cons_succ]
  refine wpAnyH_done (by kernel_rfl) ?_ _
  go_wp2
  go_ret
  exact ⟨rfl, hgr⟩
end Go.Proofs.Ytpfhbojodapomaa.Mux
