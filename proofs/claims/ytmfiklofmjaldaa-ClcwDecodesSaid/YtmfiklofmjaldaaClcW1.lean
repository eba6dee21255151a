/-
  The walk of package clcw's Encode.
-/
import Derived.Test.YtmfiklofmjaldaaClcW0
import Derived.Test.YtmfiklofmjaldaaPacW2
namespace Go.Proofs.Ytmfiklofmjaldaa.Clc
open Go.RowKit Go.Proofs.Ytmfiklofmjaldaa.Pac

set_option maxHeartbeats 1000000 in
theorem cencode_no (ch : Int) (lk wt rt : Bool) (bp nx : Int) (w : World) (hok : Cw.ok ⟨ch, lk, wt, rt, bp, nx⟩ = false) :
    Calls Try.prog 7 #[.agg #[.int .i64 ch, .bool lk, .bool wt, .bool rt, .int .i64 bp, .int .i64 nx]] w fun e w' => e = .returned (.tuple #[.slice none 0 0, .int .i64 1]) ∧ Below w.heap.size w w' := by
  have hv := fun W => cvalid_any ch lk wt rt bp nx W
  rw [hok] at hv
  clear hok
  go_enter Try.func7, Try.ntmps7
  go_wp2_with fail
  refine (hv _).mono ?_
  rintro e w' ⟨rfl, hbe⟩
  go_wp2
  go_ret2
  exact ⟨rfl, (bel_new _ _).trans (hbe.mono (bel_new _ _).size)⟩

set_option maxHeartbeats 2000000 in
theorem cencode_yes (C B Q : Nat) (lk wt rt : Bool) (w : World) (hok : Cw.ok ⟨C, lk, wt, rt, B, Q⟩ = true) (hC : C < 8) (hB : B < 4) (hQ : Q < 256) :
    Calls Try.prog 7 #[.agg #[.int .i64 (C : Int), .bool lk, .bool wt, .bool rt, .int .i64 (B : Int), .int .i64 (Q : Int)]] w fun e w' => ∃ v, e = .returned (.tuple #[v, .int .i64 0]) ∧ Ow w' w.heap.size 5 v (wd4 C (fl3 lk wt rt B) Q) ∧ Below w.heap.size w w' := by
  have hv := fun W => cvalid_any (C : Int) lk wt rt (B : Int) (Q : Int) W
  rw [hok] at hv
  have hP0 := Cel.new w 23 #[.int .i64 (C : Int), .bool lk, .bool wt, .bool rt, .int .i64 (B : Int), .int .i64 (Q : Int)]
  have k1 := to_u64 C (by omega)
  have k2 := to_u64 B (by omega)
  have k3 := to_u64 Q (by omega)
  have n1 := nb_lt lk
  have n2 := nb_lt wt
  have n3 := nb_lt rt
  obtain ⟨E, hE⟩ : ∃ E, E = wd4 C (fl3 lk wt rt B) Q := ⟨_, rfl⟩
  rw [← hE]
  have HE := Lib.hid hE
  clear hok hE
  go_enter Try.func7, Try.ntmps7
  go_wp2_with fail
  refine (hv _).mono ?_
  rintro e w1 ⟨rfl, hbe⟩
  have hP := Cel.later hP0 hbe
  have bel1 := (bel_new w (.cells #[.int .i64 (C : Int), .bool lk, .bool wt, .bool rt, .int .i64 (B : Int), .int .i64 (Q : Int)] 23)).trans (hbe.mono (bel_new w _).size)
  have hlt := hP.lt
  have c0 := hP.cell 0
  have c1 := hP.cell 1
  have c2 := hP.cell 2
  have c3 := hP.cell 3
  have c4 := hP.cell 4
  have c5 := hP.cell 5
  simp at c0 c1 c2 c3 c4 c5
  clear hv hP0 hP hbe
  go_wp2_with fail
  refine (newWriter_any _).mono ?_
  rintro e W0 ⟨rfl, hW0⟩
  have s0 : WS w1.heap.size w1 w1.heap.size [] W0 := by rw [← hW0]; exact WS.new (Below.refl _ _) (Nat.le_refl _)
  clear hW0
  go_wp2_with fail
  refine (s0.put (0) (0) rfl 1 1 rfl (by omega) (by omega) (by simp)).mono ?_
  rintro e W1 ⟨rfl, s1⟩
  clear s0
  go_wp2_with fail
  refine (s1.put (0) (0) rfl 2 2 rfl (by omega) (by omega) (by simp [bitsOf_len])).mono ?_
  rintro e W2 ⟨rfl, s2⟩
  clear s1
  go_wp2_with fail
  refine (s2.put (0) (0) rfl 3 3 rfl (by omega) (by omega) (by simp [bitsOf_len])).mono ?_
  rintro e W3 ⟨rfl, s3⟩
  clear s2
  go_wp2_with fail
  refine (s3.put (1) (1) rfl 2 2 rfl (by omega) (by omega) (by simp [bitsOf_len])).mono ?_
  rintro e W4 ⟨rfl, s4⟩
  clear s3
  have HB := s4.2.2
  have d0 := (HB.cell (p := ⟨w.heap.size, 0, none⟩) hlt).trans c0
  go_wp2_with fail
  refine (s4.put (C : Int) C rfl 6 6 rfl (by omega) (by omega) (by simp [bitsOf_len])).mono ?_
  rintro e W5 ⟨rfl, s5⟩
  clear d0 HB s4
  go_wp2_with fail
  refine (s5.put (0) (0) rfl 4 4 rfl (by omega) (by omega) (by simp [bitsOf_len])).mono ?_
  rintro e W6 ⟨rfl, s6⟩
  clear s5
  have HB := s6.2.2
  have d1 := (HB.cell (p := ⟨w.heap.size, 1, none⟩) hlt).trans c1
  have d2 := (HB.cell (p := ⟨w.heap.size, 2, none⟩) hlt).trans c2
  have d3 := (HB.cell (p := ⟨w.heap.size, 3, none⟩) hlt).trans c3
  have d4 := (HB.cell (p := ⟨w.heap.size, 4, none⟩) hlt).trans c4
  go_wp2_with fail
  refine wp_region_held_drew (S := (fun w' => w'.cell? ⟨w.heap.size, 1, none⟩ = some (.bool lk) ∧ w'.cell? ⟨w.heap.size, 2, none⟩ = some (.bool wt) ∧ w'.cell? ⟨w.heap.size, 3, none⟩ = some (.bool rt) ∧ w'.cell? ⟨w.heap.size, 4, none⟩ = some (.int .i64 (B : Int)))) (by kernel_rfl) (⟨d1, d2, d3, d4⟩) (fun hHeld => ?_)
  refine wpAnyH_here 0 (v := ?_) rfl (by kernel_rfl) (by kernel_rfl) (by kernel_rfl) (fun _ _ _ h => h) (Or.inl ⟨by rfl, ?_⟩) hHeld ?_
  rotate_left
  · intro w hSw; (try dsimp only at hSw); go_simp; all_goals (with_reducible rfl)
  try simp only [Act.put, List.setIfInBounds_toArray, List.set_cons_zero, List.set_cons_succ]
  refine wpAnyH_here 1 (v := ?_) rfl (by kernel_rfl) (by kernel_rfl) (by kernel_rfl) (fun _ _ _ h => h) (Or.inl ⟨by rfl, ?_⟩) hHeld ?_
  rotate_left
  · intro w hSw; (try dsimp only at hSw); go_simp; all_goals (with_reducible rfl)
  try simp only [Act.put, List.setIfInBounds_toArray, List.set_cons_zero, List.set_cons_succ]
  refine wpAnyH_here 2 (v := ?_) rfl (by kernel_rfl) (by kernel_rfl) (by kernel_rfl) (fun _ _ _ h => h) (Or.inl ⟨by rfl, ?_⟩) hHeld ?_
  rotate_left
  · intro w hSw; (try dsimp only at hSw); go_simp; all_goals (with_reducible rfl)
  try simp only [Act.put, List.setIfInBounds_toArray, List.set_cons_zero, List.set_cons_succ]
  refine wpAnyH_here 5 (v := ?_) rfl (by kernel_rfl) (by kernel_rfl) (by kernel_rfl) (fun _ _ _ h => h) (Or.inl ⟨by rfl, ?_⟩) hHeld ?_
  rotate_left
  · intro w hSw; (try dsimp only at hSw); go_simp; all_goals (with_reducible rfl)
  try simp only [Act.put, List.setIfInBounds_toArray, List.set_cons_zero, List.set_cons_succ]
  refine wpAnyH_here 6 (v := ?_) rfl (by kernel_rfl) (by kernel_rfl) (by kernel_rfl) (fun _ _ _ h => h) (Or.inl ⟨by rfl, ?_⟩) hHeld ?_
  rotate_left
  · intro w hSw; (try dsimp only at hSw); go_simp; all_goals (with_reducible rfl)
  try simp only [Act.put, List.setIfInBounds_toArray, List.set_cons_zero, List.set_cons_succ]
  refine wpAnyH_here 9 (v := ?_) rfl (by kernel_rfl) (by kernel_rfl) (by kernel_rfl) (fun _ _ _ h => h) (Or.inl ⟨by rfl, ?_⟩) hHeld ?_
  rotate_left
  · intro w hSw; (try dsimp only at hSw); go_simp; all_goals (with_reducible rfl)
  try simp only [Act.put, List.setIfInBounds_toArray, List.set_cons_zero, List.set_cons_succ]
  refine wpAnyH_here 10 (v := ?_) rfl (by kernel_rfl) (by kernel_rfl) (by kernel_rfl) (fun _ _ _ h => h) (Or.inl ⟨by rfl, ?_⟩) hHeld ?_
  rotate_left
  · intro w hSw; (try dsimp only at hSw); go_simp; all_goals (with_reducible rfl)
  try simp only [Act.put, List.setIfInBounds_toArray, List.set_cons_zero, List.set_cons_succ]
  refine wpAnyH_here 13 (v := ?_) rfl (by kernel_rfl) (by kernel_rfl) (by kernel_rfl) (fun _ _ _ h => h) (Or.inl ⟨by rfl, ?_⟩) hHeld ?_
  rotate_left
  · intro w hSw; (try dsimp only at hSw); go_simp; all_goals (with_reducible rfl)
  try simp only [Act.put, List.setIfInBounds_toArray, List.set_cons_zero, List.set_cons_succ]
  refine wpAnyH_here 14 (v := ?_) rfl (by kernel_rfl) (by kernel_rfl) (by kernel_rfl) (fun _ _ _ h => h) (Or.inl ⟨by rfl, ?_⟩) hHeld ?_
  rotate_left
  · intro w hSw; (try dsimp only at hSw); go_simp; all_goals (with_reducible rfl)
  try simp only [Act.put, List.setIfInBounds_toArray, List.set_cons_zero, List.set_cons_succ]
  refine wpAnyH_here 15 (v := ?_) rfl (by kernel_rfl) (by kernel_rfl) (by kernel_rfl) (fun _ _ _ h => h) (Or.inl ⟨by rfl, ?_⟩) hHeld ?_
  rotate_left
  · intro w hSw; (try dsimp only at hSw); go_simp; all_goals (with_reducible rfl)
  try simp only [Act.put, List.setIfInBounds_toArray, List.set_cons_zero, List.set_cons_succ]
  refine wpAnyH_alone 3 rfl (by kernel_rfl) (fun K hK => ?_)
  go_simp
  (go_at_call 16; refine (cbit_any _ _).mono ?_; rintro e V3 ⟨rfl, rfl⟩)
  refine hK.out _ _ (⟨(HB.cell (p := ⟨w.heap.size, 1, none⟩) hlt).trans c1, (HB.cell (p := ⟨w.heap.size, 2, none⟩) hlt).trans c2, (HB.cell (p := ⟨w.heap.size, 3, none⟩) hlt).trans c3, (HB.cell (p := ⟨w.heap.size, 4, none⟩) hlt).trans c4⟩) (fun hHeld => ?_)
  clear hK K
  try simp only [Act.put, List.setIfInBounds_toArray, List.set_cons_zero, List.set_cons_succ]
  refine wpAnyH_alone 4 rfl (by kernel_rfl) (fun K hK => ?_)
  go_simp
  (go_at_call 15; refine (s6.draws.put ((nb lk : Nat)) (nb lk) rfl 1 1 rfl (by omega) (by omega) (by simp [bitsOf_len])).mono ?_; rintro e W7 ⟨rfl, s7⟩; have HB := s7.2.2)
  refine hK.out _ _ (⟨(HB.cell (p := ⟨w.heap.size, 1, none⟩) hlt).trans c1, (HB.cell (p := ⟨w.heap.size, 2, none⟩) hlt).trans c2, (HB.cell (p := ⟨w.heap.size, 3, none⟩) hlt).trans c3, (HB.cell (p := ⟨w.heap.size, 4, none⟩) hlt).trans c4⟩) (fun hHeld => ?_)
  clear hK K
  try simp only [Act.put, List.setIfInBounds_toArray, List.set_cons_zero, List.set_cons_succ]
  refine wpAnyH_alone 7 rfl (by kernel_rfl) (fun K hK => ?_)
  go_simp
  (go_at_call 16; refine (cbit_any _ _).mono ?_; rintro e V7 ⟨rfl, rfl⟩)
  refine hK.out _ _ (⟨(HB.cell (p := ⟨w.heap.size, 1, none⟩) hlt).trans c1, (HB.cell (p := ⟨w.heap.size, 2, none⟩) hlt).trans c2, (HB.cell (p := ⟨w.heap.size, 3, none⟩) hlt).trans c3, (HB.cell (p := ⟨w.heap.size, 4, none⟩) hlt).trans c4⟩) (fun hHeld => ?_)
  clear hK K
  try simp only [Act.put, List.setIfInBounds_toArray, List.set_cons_zero, List.set_cons_succ]
  refine wpAnyH_alone 8 rfl (by kernel_rfl) (fun K hK => ?_)
  go_simp
  (go_at_call 15; refine (s7.put ((nb wt : Nat)) (nb wt) rfl 1 1 rfl (by omega) (by omega) (by simp [bitsOf_len])).mono ?_; rintro e W8 ⟨rfl, s8⟩; have HB := s8.2.2)
  refine hK.out _ _ (⟨(HB.cell (p := ⟨w.heap.size, 1, none⟩) hlt).trans c1, (HB.cell (p := ⟨w.heap.size, 2, none⟩) hlt).trans c2, (HB.cell (p := ⟨w.heap.size, 3, none⟩) hlt).trans c3, (HB.cell (p := ⟨w.heap.size, 4, none⟩) hlt).trans c4⟩) (fun hHeld => ?_)
  clear hK K
  try simp only [Act.put, List.setIfInBounds_toArray, List.set_cons_zero, List.set_cons_succ]
  refine wpAnyH_alone 11 rfl (by kernel_rfl) (fun K hK => ?_)
  go_simp
  (go_at_call 16; refine (cbit_any _ _).mono ?_; rintro e V11 ⟨rfl, rfl⟩)
  refine hK.out _ _ (⟨(HB.cell (p := ⟨w.heap.size, 1, none⟩) hlt).trans c1, (HB.cell (p := ⟨w.heap.size, 2, none⟩) hlt).trans c2, (HB.cell (p := ⟨w.heap.size, 3, none⟩) hlt).trans c3, (HB.cell (p := ⟨w.heap.size, 4, none⟩) hlt).trans c4⟩) (fun hHeld => ?_)
  clear hK K
  try simp only [Act.put, List.setIfInBounds_toArray, List.set_cons_zero, List.set_cons_succ]
  refine wpAnyH_alone 12 rfl (by kernel_rfl) (fun K hK => ?_)
  go_simp
  (go_at_call 15; refine (s8.put ((nb rt : Nat)) (nb rt) rfl 1 1 rfl (by omega) (by omega) (by simp [bitsOf_len])).mono ?_; rintro e W9 ⟨rfl, s9⟩; have HB := s9.2.2)
  refine hK.out _ _ (⟨(HB.cell (p := ⟨w.heap.size, 1, none⟩) hlt).trans c1, (HB.cell (p := ⟨w.heap.size, 2, none⟩) hlt).trans c2, (HB.cell (p := ⟨w.heap.size, 3, none⟩) hlt).trans c3, (HB.cell (p := ⟨w.heap.size, 4, none⟩) hlt).trans c4⟩) (fun hHeld => ?_)
  clear hK K
  try simp only [Act.put, List.setIfInBounds_toArray, List.set_cons_zero, List.set_cons_succ]
  refine wpAnyH_alone 16 rfl (by kernel_rfl) (fun K hK => ?_)
  go_simp
  (go_at_call 15; refine (s9.put (B : Int) B rfl 2 2 rfl (by omega) (by omega) (by simp [bitsOf_len])).mono ?_; rintro e W10 ⟨rfl, s10⟩; have HB := s10.2.2)
  refine hK.out _ _ (⟨(HB.cell (p := ⟨w.heap.size, 1, none⟩) hlt).trans c1, (HB.cell (p := ⟨w.heap.size, 2, none⟩) hlt).trans c2, (HB.cell (p := ⟨w.heap.size, 3, none⟩) hlt).trans c3, (HB.cell (p := ⟨w.heap.size, 4, none⟩) hlt).trans c4⟩) (fun hHeld => ?_)
  clear hK K
  try simp only [Act.put, List.setIfInBounds_toArray, List.set_cons_zero, List.set_cons_succ]
  refine wpAnyH_done (by kernel_rfl) ?_ _
  clear d1 d2 d3 d4 c1 c2 c3 c4
  have d5 := (HB.cell (p := ⟨w.heap.size, 5, none⟩) hlt).trans c5
  go_wp2_with fail
  refine wp_region_held_drew (S := (fun w' => w'.cell? ⟨w.heap.size, 5, none⟩ = some (.int .i64 (Q : Int)))) (by kernel_rfl) (d5) (fun hHeld => ?_)
  refine wpAnyH_here 0 (v := ?_) rfl (by kernel_rfl) (by kernel_rfl) (by kernel_rfl) (fun _ _ _ h => h) (Or.inl ⟨by rfl, ?_⟩) hHeld ?_
  rotate_left
  · intro w hSw; (try dsimp only at hSw); go_simp; all_goals (with_reducible rfl)
  try simp only [Act.put, List.setIfInBounds_toArray, List.set_cons_zero, List.set_cons_succ]
  refine wpAnyH_here 2 (v := ?_) rfl (by kernel_rfl) (by kernel_rfl) (by kernel_rfl) (fun _ _ _ h => h) (Or.inl ⟨by rfl, ?_⟩) hHeld ?_
  rotate_left
  · intro w hSw; (try dsimp only at hSw); go_simp; all_goals (with_reducible rfl)
  try simp only [Act.put, List.setIfInBounds_toArray, List.set_cons_zero, List.set_cons_succ]
  refine wpAnyH_here 3 (v := ?_) rfl (by kernel_rfl) (by kernel_rfl) (by kernel_rfl) (fun _ _ _ h => h) (Or.inl ⟨by rfl, ?_⟩) hHeld ?_
  rotate_left
  · intro w hSw; (try dsimp only at hSw); go_simp; all_goals (with_reducible rfl)
  try simp only [Act.put, List.setIfInBounds_toArray, List.set_cons_zero, List.set_cons_succ]
  refine wpAnyH_here 4 (v := ?_) rfl (by kernel_rfl) (by kernel_rfl) (by kernel_rfl) (fun _ _ _ h => h) (Or.inl ⟨by rfl, ?_⟩) hHeld ?_
  rotate_left
  · intro w hSw; (try dsimp only at hSw); go_simp; all_goals (with_reducible rfl)
  try simp only [Act.put, List.setIfInBounds_toArray, List.set_cons_zero, List.set_cons_succ]
  refine wpAnyH_alone 1 rfl (by kernel_rfl) (fun K hK => ?_)
  go_simp
  (go_at_call 15; refine (s10.draws.put (0) (0) rfl 1 1 rfl (by omega) (by omega) (by simp [bitsOf_len])).mono ?_; rintro e W11 ⟨rfl, s11⟩; have HB := s11.2.2)
  refine hK.out _ _ ((HB.cell (p := ⟨w.heap.size, 5, none⟩) hlt).trans c5) (fun hHeld => ?_)
  clear hK K
  try simp only [Act.put, List.setIfInBounds_toArray, List.set_cons_zero, List.set_cons_succ]
  refine wpAnyH_alone 5 rfl (by kernel_rfl) (fun K hK => ?_)
  go_simp
  (go_at_call 15; refine (s11.put (Q : Int) Q rfl 8 8 rfl (by omega) (by omega) (by simp [bitsOf_len])).mono ?_; rintro e W12 ⟨rfl, s12⟩; have HB := s12.2.2)
  refine hK.out _ _ ((HB.cell (p := ⟨w.heap.size, 5, none⟩) hlt).trans c5) (fun hHeld => ?_)
  clear hK K
  try simp only [Act.put, List.setIfInBounds_toArray, List.set_cons_zero, List.set_cons_succ]
  refine wpAnyH_alone 6 rfl (by kernel_rfl) (fun K hK => ?_)
  go_simp
  (go_at_call 17; refine (s12.bytes (by simp [bitsOf_len])).mono ?_; rintro e W13 ⟨v, bs, rfl, hpk, hown, hb13⟩; have HB := HB.trans (hb13.mono (Nat.le_of_lt s12.size)))
  refine hK.out _ _ ((HB.cell (p := ⟨w.heap.size, 5, none⟩) hlt).trans c5) (fun hHeld => ?_)
  clear hK K
  try simp only [Act.put, List.setIfInBounds_toArray, List.set_cons_zero, List.set_cons_succ]
  refine wpAnyH_here 7 (v := ?_) rfl (by kernel_rfl) (by kernel_rfl) (by kernel_rfl) (fun _ _ _ h => h) (Or.inl ⟨by rfl, ?_⟩) hHeld ?_
  rotate_left
  · intro w hSw; (try dsimp only at hSw); go_simp; all_goals (with_reducible rfl)
  try simp only [Act.put, List.setIfInBounds_toArray, List.set_cons_zero, List.set_cons_succ]
  refine wpAnyH_here 8 (v := ?_) rfl (by kernel_rfl) (by kernel_rfl) (by kernel_rfl) (fun _ _ _ h => h) (Or.inl ⟨by rfl, ?_⟩) hHeld ?_
  rotate_left
  · intro w hSw; (try dsimp only at hSw); go_simp; all_goals (with_reducible rfl)
  try simp only [Act.put, List.setIfInBounds_toArray, List.set_cons_zero, List.set_cons_succ]
  refine wpAnyH_done (by kernel_rfl) ?_ _
  go_wp2
  go_ret2
  have hbs := word_of C B Q lk wt rt hC hB hpk
  rw [← HE.out] at hbs
  subst hbs
  have hz := s12.size
  exact ⟨v, rfl, hown.more (by omega), bel1.trans (HB.mono (by omega))⟩

theorem cencode_any (ch : Int) (lk wt rt : Bool) (bp nx : Int) (w : World) :
    Calls Try.prog 7 #[.agg #[.int .i64 ch, .bool lk, .bool wt, .bool rt, .int .i64 bp, .int .i64 nx]] w fun e w' => ∃ v, e = .returned (.tuple #[v, .int .i64 (Cw.err ⟨ch, lk, wt, rt, bp, nx⟩)]) ∧ Ow w' w.heap.size 5 v (Cw.enc ⟨ch, lk, wt, rt, bp, nx⟩) ∧ Below w.heap.size w w' := by
  cases hok : Cw.ok ⟨ch, lk, wt, rt, bp, nx⟩ with
  | false =>
    rw [Cw.enc_no hok, Cw.err_no hok]
    exact (cencode_no ch lk wt rt bp nx w hok).mono fun e w' ⟨h1, h2⟩ => ⟨_, h1, Ow_nil _ _, h2⟩
  | true =>
    rw [Cw.enc_yes hok, Cw.err_yes hok]
    obtain ⟨h1, h2, h3, h4, h5, h6⟩ := Cw.ok_fits hok
    simp only at h1 h2 h3 h4 h5 h6
    obtain ⟨C, rfl⟩ := Int.eq_ofNat_of_zero_le h1
    obtain ⟨B, rfl⟩ := Int.eq_ofNat_of_zero_le h3
    obtain ⟨Q, rfl⟩ := Int.eq_ofNat_of_zero_le h5
    exact cencode_yes C B Q lk wt rt w hok (by omega) (by omega) (by omega)
end Go.Proofs.Ytmfiklofmjaldaa.Clc
