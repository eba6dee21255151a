/-
  The walk of the law MarkerWraps.
-/
import Derived.Test.YtahpogmbkkpmdaaLaw13a
namespace Go.Proofs.Ytahpogmbkkpmdaa.Mar
open Go.RowKit Go.Proofs.Ytahpogmbkkpmdaa.Row Lst
open Scr (app app_len conv_at bel_new)

set_option maxRecDepth 100000 in
set_option maxHeartbeats 4000000 in
theorem markerWraps_ok (a : Option Addr) (l : List Byte) (n c : Nat) (w : World) (hl : Hid (l.length = n)) (hb : Bs w w.heap.size a l) (hm : n ≤ 3000) :
    Calls Try.prog 3 #[.slice a n c] w fun e w' => e = .returned (.bool true) ∧ Below w.heap.size w w' := by
  have x1 := fun (W : World) (hW : Below w.heap.size w W) => wrap_any a l n c W hl ((hb.below hW).more hW.size) (by omega)
  have x2 := fun (W : World) (hW : Below w.heap.size w W) => rwrap_any a l n c W hl ((hb.below hW).more hW.size) (by omega)
  obtain ⟨E, hE⟩ : ∃ E, E = pat ++ app l := ⟨_, rfl⟩
  obtain ⟨M, hM⟩ : ∃ M, M = 4 + n := ⟨_, rfl⟩
  have HE : Hid (E.length = M) := Lib.hid (by rw [hE, hM, List.length_append, app_len, hl.out, pat_len])
  simp only [← hE] at x1 x2
  have t1 : decide (3000 < (n : Int)) = false := by simp; omega
  have t1' : decide (3000 < n) = false := by simp; omega
  clear hE hM hm
  have e1 : ((str E).toList == (str E).toList) = true := by simp
  go_enter Try.func3, Try.ntmps3
  go_wp2_with fail
  refine wp_region_held_drew (S := (fun w' => Below w.heap.size w w')) (by kernel_rfl) ((Below.refl _ w).drew) (fun hHeld => ?_)
  refine wpAnyH_here 0 (v := ?_) rfl (by kernel_rfl) (by kernel_rfl) (by kernel_rfl) (fun _ _ _ h => h) (Or.inl ⟨by rfl, ?_⟩) hHeld ?_
  rotate_left
  · intro w hSw; (try dsimp only at hSw); go_simp; all_goals (with_reducible rfl)
  try simp only [Act.put, List.setIfInBounds_toArray, List.set_cons_zero, List.set_cons_succ]
  refine wpAnyH_here 3 (v := ?_) rfl (by kernel_rfl) (by kernel_rfl) (by kernel_rfl) (fun _ _ _ h => h) (Or.inl ⟨by rfl, ?_⟩) hHeld ?_
  rotate_left
  · intro w hSw; (try dsimp only at hSw); go_simp; all_goals (with_reducible rfl)
  try simp only [Act.put, List.setIfInBounds_toArray, List.set_cons_zero, List.set_cons_succ]
  refine wpAnyH_alone 1 rfl (by kernel_rfl) (fun K hK => ?_)
  go_simp
  (go_at_call 7; refine (x1 _ hHeld).mono ?_; rintro e w1 ⟨v1, rfl, o1, b1⟩; obtain ⟨A1, c1, rfl, hA1, hn1, _⟩ := o1.reads_len HE.out; have bel1 := hHeld.trans (b1.mono hHeld.size))
  refine hK.out _ _ (bel1) (fun hHeld => ?_)
  clear hK K
  try simp only [Act.put, List.setIfInBounds_toArray, List.set_cons_zero, List.set_cons_succ]
  have q1 := conv_at w1 HE.out hA1 hn1
  refine wpAnyH_sharpen (S' := (fun w' => Below w.heap.size w w' ∧ (convert 22 9 (.slice A1 M c1)).run Try.prog w' = .ok (.string (str E)) w')) (fun w h => h.1) (⟨hHeld, q1⟩) (fun hHeld => ?_)
  refine wpAnyH_here 2 (v := ?_) rfl (by kernel_rfl) (by kernel_rfl) (by kernel_rfl) (fun _ _ _ h => h) (Or.inl ⟨by rfl, ?_⟩) hHeld ?_
  rotate_left
  · intro w hSw; (try dsimp only at hSw); go_simp; all_goals (with_reducible rfl)
  try simp only [Act.put, List.setIfInBounds_toArray, List.set_cons_zero, List.set_cons_succ]
  refine wpAnyH_alone 4 rfl (by kernel_rfl) (fun K hK => ?_)
  go_simp
  (go_at_call 8; refine (x2 _ bel1).mono ?_; rintro e w2 ⟨v2, rfl, o2, b2⟩; obtain ⟨A2, c2, rfl, hA2, hn2, _⟩ := o2.reads_len HE.out; have bel2 := bel1.trans (b2.mono bel1.size))
  refine hK.out _ _ (⟨bel2, conv_at w2 HE.out (hA1.below b2) hn1⟩) (fun hHeld => ?_)
  clear hK K
  try simp only [Act.put, List.setIfInBounds_toArray, List.set_cons_zero, List.set_cons_succ]
  have q2 := conv_at w2 HE.out hA2 hn2
  refine wpAnyH_sharpen (S' := (fun w' => (Below w.heap.size w w' ∧ (convert 22 9 (.slice A1 M c1)).run Try.prog w' = .ok (.string (str E)) w') ∧ (convert 22 9 (.slice A2 M c2)).run Try.prog w' = .ok (.string (str E)) w')) (fun w h => h.1) (⟨hHeld, q2⟩) (fun hHeld => ?_)
  refine wpAnyH_here 5 (v := ?_) rfl (by kernel_rfl) (by kernel_rfl) (by kernel_rfl) (fun _ _ _ h => h) (Or.inl ⟨by rfl, ?_⟩) hHeld ?_
  rotate_left
  · intro w hSw; (try dsimp only at hSw); go_simp; all_goals (with_reducible rfl)
  try simp only [Act.put, List.setIfInBounds_toArray, List.set_cons_zero, List.set_cons_succ]
  refine wpAnyH_here 6 (v := ?_) rfl (by kernel_rfl) (by kernel_rfl) (by kernel_rfl) (fun _ _ _ h => h) (Or.inl ⟨by rfl, ?_⟩) hHeld ?_
  rotate_left
  · intro w hSw; (try dsimp only at hSw); go_simp; all_goals (with_reducible rfl)
  try simp only [Act.put, List.setIfInBounds_toArray, List.set_cons_zero, List.set_cons_succ]
  refine wpAnyH_here 7 (v := ?_) rfl (by kernel_rfl) (by kernel_rfl) (by kernel_rfl) (fun _ _ _ h => h) (Or.inl ⟨by rfl, ?_⟩) hHeld ?_
  rotate_left
  · intro w hSw; (try dsimp only at hSw); go_simp; all_goals (with_reducible rfl)
  try simp only [Act.put, List.setIfInBounds_toArray, List.set_cons_zero, List.set_cons_succ]
  refine wpAnyH_alone 8 rfl (by kernel_rfl) (fun K hK => ?_)
  go_simp
  (go_at_call 6; refine (alive_any _).mono ?_; rintro e w3 ⟨rfl, b3⟩; have bel3 := bel2.trans (b3.mono bel2.size); have b23 := b2.trans (b3.mono b2.size))
  refine hK.out _ _ (⟨⟨bel3, conv_at w3 HE.out (hA1.below b23) hn1⟩, conv_at w3 HE.out (hA2.below b3) hn2⟩) (fun hHeld => ?_)
  clear hK K
  try simp only [Act.put, List.setIfInBounds_toArray, List.set_cons_zero, List.set_cons_succ]
  clear hA1 hA2 q1 q2 o1 o2
  refine wpAnyH_here 9 (v := ?_) rfl (by kernel_rfl) (by kernel_rfl) (by kernel_rfl) (fun _ _ _ h => h) (Or.inl ⟨by rfl, ?_⟩) hHeld ?_
  rotate_left
  · intro w hSw; (try dsimp only at hSw); go_simp; all_goals (with_reducible rfl)
  try simp only [Act.put, List.setIfInBounds_toArray, List.set_cons_zero, List.set_cons_succ]
  refine wpAnyH_here 10 (v := ?_) rfl (by kernel_rfl) (by kernel_rfl) (by kernel_rfl) (fun _ _ _ h => h) (Or.inl ⟨by rfl, ?_⟩) hHeld ?_
  rotate_left
  · intro w hSw; (try dsimp only at hSw); go_simp; all_goals (with_reducible rfl)
  try simp only [Act.put, List.setIfInBounds_toArray, List.set_cons_zero, List.set_cons_succ]
  refine wpAnyH_done (by kernel_rfl) ?_ _
  go_wp2
  go_ret
  exact ⟨rfl, bel3⟩

set_option maxHeartbeats 400000 in
theorem markerWraps_walk (a : Option Addr) (l : List Byte) (n c : Nat) (w : World) (hl : Hid (l.length = n)) (hb : Bs w w.heap.size a l) : Calls Try.prog 3 #[.slice a n c] w fun e w' => e = .returned (.bool true) ∧ Below w.heap.size w w' := by
  rcases Nat.lt_or_ge 3000 n with h | h
  · have t1 : (3000 : Int) < (n : Int) := by omega
    go_enter Try.func3, Try.ntmps3
    go_wp2_with (go_at_call 6; refine (alive_any _).mono ?_; rintro e w1 ⟨rfl, bel1⟩)
    go_ret
    exact ⟨rfl, bel1⟩
  · exact markerWraps_ok a l n c w hl hb h
end Go.Proofs.Ytahpogmbkkpmdaa.Mar
