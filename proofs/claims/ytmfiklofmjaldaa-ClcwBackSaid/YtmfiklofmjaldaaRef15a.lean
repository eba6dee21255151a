/-
  The walks of the reference's Encode of layer 15.
-/
import Derived.Test.YtmfiklofmjaldaaClcW0
import Derived.Test.YtmfiklofmjaldaaHand
namespace Go.Proofs.Ytmfiklofmjaldaa.Clc
open Go.RowKit Go.Proofs.Ytmfiklofmjaldaa.Pac

set_option maxHeartbeats 1000000 in
theorem zencode_no (ch : Int) (lk wt rt : Bool) (bp nx : Int) (w : World) (hok : Cw.ok ⟨ch, lk, wt, rt, bp, nx⟩ = false) :
    Calls Try.prog 8 #[.agg #[.int .i64 ch, .bool lk, .bool wt, .bool rt, .int .i64 bp, .int .i64 nx]] w fun e w' => e = .returned (.tuple #[.slice none 0 0, .int .i64 1]) ∧ Below w.heap.size w w' := by
  have hv := fun W => zvalid_any ch lk wt rt bp nx W
  rw [hok] at hv
  clear hok
  go_enter Try.func8, Try.ntmps8
  go_wp2_with fail
  refine (hv _).mono ?_
  rintro e w' ⟨rfl, hbe⟩
  go_wp2
  go_ret2
  exact ⟨rfl, (bel_new _ _).trans (hbe.mono (bel_new _ _).size)⟩

theorem i64_in {x : Int} (h : -1000000 ≤ x) (h2 : x ≤ 1000000) : IntKind.i64.wrap x = x := by
  simp [IntKind.wrap, IntKind.bits, IntKind.signed]
  omega
theorem u8_in {x : Int} (h : 0 ≤ x) (h2 : x < 256) : IntKind.u8.wrap x = x := by
  simp [IntKind.wrap, IntKind.bits, IntKind.signed]
  omega
theorem wd4_cells {C F Q : Nat} {y1 y2 y3 : Int} (h1 : y1 = ((4 * C % 256 : Nat) : Int)) (h2 : y2 = ((F % 256 : Nat) : Int)) (h3 : y3 = ((Q % 256 : Nat) : Int)) :
    #[Value.int .u8 1, .int .u8 y1, .int .u8 y2, .int .u8 y3] = ((wd4 C F Q).map B8).toArray := by
  subst h1 h2 h3
  simp [wd4]
theorem flg_of (lk wt rt : Bool) (B : Nat) : flg lk 32 + flg wt 16 + flg rt 8 + 2 * (B : Int) = ((fl3 lk wt rt B : Nat) : Int) := by
  unfold flg fl3
  cases lk <;> cases wt <;> cases rt <;> simp
set_option maxHeartbeats 2000000 in
theorem zencode_yes (C B Q : Nat) (lk wt rt : Bool) (w : World) (hok : Cw.ok ⟨C, lk, wt, rt, B, Q⟩ = true) (hC : C < 8) (hB : B < 4) (hQ : Q < 256) :
    Calls Try.prog 8 #[.agg #[.int .i64 (C : Int), .bool lk, .bool wt, .bool rt, .int .i64 (B : Int), .int .i64 (Q : Int)]] w fun e w' => ∃ v, e = .returned (.tuple #[v, .int .i64 0]) ∧ Ow w' w.heap.size 5 v (wd4 C (fl3 lk wt rt B) Q) ∧ Below w.heap.size w w' := by
  have hv := fun W => zvalid_any (C : Int) lk wt rt (B : Int) (Q : Int) W
  rw [hok] at hv
  have hP0 := Cel.new w 23 #[.int .i64 (C : Int), .bool lk, .bool wt, .bool rt, .int .i64 (B : Int), .int .i64 (Q : Int)]
  obtain ⟨F1, hF1⟩ : ∃ F, F = flg lk 32 := ⟨_, rfl⟩
  obtain ⟨F2, hF2⟩ : ∃ F, F = flg wt 16 := ⟨_, rfl⟩
  obtain ⟨F3, hF3⟩ : ∃ F, F = flg rt 8 := ⟨_, rfl⟩
  have r1 : 0 ≤ F1 ∧ F1 ≤ 32 := by rw [hF1]; unfold flg; cases lk <;> simp
  have r2 : 0 ≤ F2 ∧ F2 ≤ 16 := by rw [hF2]; unfold flg; cases wt <;> simp
  have r3 : 0 ≤ F3 ∧ F3 ≤ 8 := by rw [hF3]; unfold flg; cases rt <;> simp
  have x1 := fun W => zflag_any lk 32 W
  have x2 := fun W => zflag_any wt 16 W
  have x3 := fun W => zflag_any rt 8 W
  rw [← hF1] at x1
  rw [← hF2] at x2
  rw [← hF3] at x3
  have hsum := flg_of lk wt rt B
  rw [← hF1, ← hF2, ← hF3] at hsum
  have hlt3 := fl3_lt lk wt rt B hB
  obtain ⟨G, hG⟩ : ∃ G, G = fl3 lk wt rt B := ⟨_, rfl⟩
  rw [← hG] at hsum hlt3 ⊢
  obtain ⟨M1, hM1⟩ : ∃ M, M = 4 * C := ⟨_, rfl⟩
  obtain ⟨T1, hT1⟩ : ∃ T, T = F1 + F2 := ⟨_, rfl⟩
  obtain ⟨T2, hT2⟩ : ∃ T, T = T1 + F3 := ⟨_, rfl⟩
  obtain ⟨T3, hT3⟩ : ∃ T, T = 2 * (B : Int) := ⟨_, rfl⟩
  have k1 : IntKind.i64.wrap (4 * (C : Int)) = (M1 : Int) := by rw [hM1, i64_in (by omega) (by omega)]; omega
  have k2 : IntKind.u8.wrap (M1 : Int) = (M1 : Int) := u8_in (by omega) (by omega)
  have k3 : IntKind.i64.wrap (F1 + F2) = T1 := by rw [hT1]; exact i64_in (by omega) (by omega)
  have k4 : IntKind.i64.wrap (T1 + F3) = T2 := by rw [hT2]; exact i64_in (by omega) (by omega)
  have k5 : IntKind.i64.wrap (2 * (B : Int)) = T3 := by rw [hT3]; exact i64_in (by omega) (by omega)
  have k6 : IntKind.i64.wrap (T2 + T3) = (G : Int) := by rw [i64_in (by omega) (by omega), ← hsum]; omega
  have k7 : IntKind.u8.wrap (G : Int) = (G : Int) := u8_in (by omega) (by omega)
  have k8 : IntKind.u8.wrap (Q : Int) = (Q : Int) := u8_in (by omega) (by omega)
  have hrow := wd4_cells (C := C) (F := G) (Q := Q) (y1 := (M1 : Int)) (y2 := (G : Int)) (y3 := (Q : Int)) (by omega) (by omega) (by omega)
  have HR := Lib.hid hrow
  clear hok hF1 hF2 hF3 hG hsum hT1 hT2 hT3 hM1 hrow r1 r2 r3
  go_enter Try.func8, Try.ntmps8
  go_wp2_with fail
  refine (hv _).mono ?_
  rintro e w1 ⟨rfl, hbe⟩
  have hP := Cel.later hP0 hbe
  have bel1 := (bel_new w (.cells #[.int .i64 (C : Int), .bool lk, .bool wt, .bool rt, .int .i64 (B : Int), .int .i64 (Q : Int)] 23)).trans (hbe.mono (bel_new w _).size)
  have hlt := hP.lt
  have c0 := hP.cell 0
  have c1 := hP.cell 1
  have c2 := hP.cell 2
  have c3 := hP.cell 3
  have c4 := hP.cell 4
  have c5 := hP.cell 5
  simp at c0 c1 c2 c3 c4 c5
  clear hv hP0 hP hbe
  go_wp2_with fail
  refine wp_region_held_drew (S := (fun w' => w'.cell? ⟨w.heap.size, 0, none⟩ = some (.int .i64 (C : Int)) ∧ w'.cell? ⟨w.heap.size, 1, none⟩ = some (.bool lk) ∧ w'.cell? ⟨w.heap.size, 2, none⟩ = some (.bool wt) ∧ w'.cell? ⟨w.heap.size, 3, none⟩ = some (.bool rt) ∧ w'.cell? ⟨w.heap.size, 4, none⟩ = some (.int .i64 (B : Int)) ∧ w'.cell? ⟨w.heap.size, 5, none⟩ = some (.int .i64 (Q : Int)))) (by kernel_rfl) (⟨c0, c1, c2, c3, c4, c5⟩) (fun hHeld => ?_)
  refine wpAnyH_here 0 (v := ?_) rfl (by kernel_rfl) (by kernel_rfl) (by kernel_rfl) (fun _ _ _ h => h) (Or.inl ⟨by rfl, ?_⟩) hHeld ?_
  rotate_left
  · intro w hSw; (try dsimp only at hSw); go_simp; all_goals (with_reducible rfl)
  try simp only [Act.put, List.setIfInBounds_toArray, List.set_cons_zero, List.set_cons_succ]
  refine wpAnyH_here 1 (v := ?_) rfl (by kernel_rfl) (by kernel_rfl) (by kernel_rfl) (fun _ _ _ h => h) (Or.inl ⟨by rfl, ?_⟩) hHeld ?_
  rotate_left
  · intro w hSw; (try dsimp only at hSw); go_simp; all_goals (with_reducible rfl)
  try simp only [Act.put, List.setIfInBounds_toArray, List.set_cons_zero, List.set_cons_succ]
  refine wpAnyH_here 2 (v := ?_) rfl (by kernel_rfl) (by kernel_rfl) (by kernel_rfl) (fun _ _ _ h => h) (Or.inl ⟨by rfl, ?_⟩) hHeld ?_
  rotate_left
  · intro w hSw; (try dsimp only at hSw); go_simp; all_goals (with_reducible rfl)
  try simp only [Act.put, List.setIfInBounds_toArray, List.set_cons_zero, List.set_cons_succ]
  refine wpAnyH_here 3 (v := ?_) rfl (by kernel_rfl) (by kernel_rfl) (by kernel_rfl) (fun _ _ _ h => h) (Or.inl ⟨by rfl, ?_⟩) hHeld ?_
  rotate_left
  · intro w hSw; (try dsimp only at hSw); go_simp; all_goals (with_reducible rfl)
  try simp only [Act.put, List.setIfInBounds_toArray, List.set_cons_zero, List.set_cons_succ]
  refine wpAnyH_here 4 (v := ?_) rfl (by kernel_rfl) (by kernel_rfl) (by kernel_rfl) (fun _ _ _ h => h) (Or.inl ⟨by rfl, ?_⟩) hHeld ?_
  rotate_left
  · intro w hSw; (try dsimp only at hSw); go_simp; all_goals (with_reducible rfl)
  try simp only [Act.put, List.setIfInBounds_toArray, List.set_cons_zero, List.set_cons_succ]
  refine wpAnyH_here 5 (v := ?_) rfl (by kernel_rfl) (by kernel_rfl) (by kernel_rfl) (fun _ _ _ h => h) (Or.inl ⟨by rfl, ?_⟩) hHeld ?_
  rotate_left
  · intro w hSw; (try dsimp only at hSw); go_simp; all_goals (with_reducible rfl)
  try simp only [Act.put, List.setIfInBounds_toArray, List.set_cons_zero, List.set_cons_succ]
  refine wpAnyH_here 7 (v := ?_) rfl (by kernel_rfl) (by kernel_rfl) (by kernel_rfl) (fun _ _ _ h => h) (Or.inl ⟨by rfl, ?_⟩) hHeld ?_
  rotate_left
  · intro w hSw; (try dsimp only at hSw); go_simp; all_goals (with_reducible rfl)
  try simp only [Act.put, List.setIfInBounds_toArray, List.set_cons_zero, List.set_cons_succ]
  refine wpAnyH_here 8 (v := ?_) rfl (by kernel_rfl) (by kernel_rfl) (by kernel_rfl) (fun _ _ _ h => h) (Or.inl ⟨by rfl, ?_⟩) hHeld ?_
  rotate_left
  · intro w hSw; (try dsimp only at hSw); go_simp; all_goals (with_reducible rfl)
  try simp only [Act.put, List.setIfInBounds_toArray, List.set_cons_zero, List.set_cons_succ]
  refine wpAnyH_here 11 (v := ?_) rfl (by kernel_rfl) (by kernel_rfl) (by kernel_rfl) (fun _ _ _ h => h) (Or.inl ⟨by rfl, ?_⟩) hHeld ?_
  rotate_left
  · intro w hSw; (try dsimp only at hSw); go_simp; all_goals (with_reducible rfl)
  try simp only [Act.put, List.setIfInBounds_toArray, List.set_cons_zero, List.set_cons_succ]
  refine wpAnyH_here 12 (v := ?_) rfl (by kernel_rfl) (by kernel_rfl) (by kernel_rfl) (fun _ _ _ h => h) (Or.inl ⟨by rfl, ?_⟩) hHeld ?_
  rotate_left
  · intro w hSw; (try dsimp only at hSw); go_simp; all_goals (with_reducible rfl)
  try simp only [Act.put, List.setIfInBounds_toArray, List.set_cons_zero, List.set_cons_succ]
  refine wpAnyH_here 15 (v := ?_) rfl (by kernel_rfl) (by kernel_rfl) (by kernel_rfl) (fun _ _ _ h => h) (Or.inl ⟨by rfl, ?_⟩) hHeld ?_
  rotate_left
  · intro w hSw; (try dsimp only at hSw); go_simp; all_goals (with_reducible rfl)
  try simp only [Act.put, List.setIfInBounds_toArray, List.set_cons_zero, List.set_cons_succ]
  refine wpAnyH_here 16 (v := ?_) rfl (by kernel_rfl) (by kernel_rfl) (by kernel_rfl) (fun _ _ _ h => h) (Or.inl ⟨by rfl, ?_⟩) hHeld ?_
  rotate_left
  · intro w hSw; (try dsimp only at hSw); go_simp; all_goals (with_reducible rfl)
  try simp only [Act.put, List.setIfInBounds_toArray, List.set_cons_zero, List.set_cons_succ]
  refine wpAnyH_here 17 (v := ?_) rfl (by kernel_rfl) (by kernel_rfl) (by kernel_rfl) (fun _ _ _ h => h) (Or.inl ⟨by rfl, ?_⟩) hHeld ?_
  rotate_left
  · intro w hSw; (try dsimp only at hSw); go_simp; all_goals (with_reducible rfl)
  try simp only [Act.put, List.setIfInBounds_toArray, List.set_cons_zero, List.set_cons_succ]
  refine wpAnyH_here 20 (v := ?_) rfl (by kernel_rfl) (by kernel_rfl) (by kernel_rfl) (fun _ _ _ h => h) (Or.inl ⟨by rfl, ?_⟩) hHeld ?_
  rotate_left
  · intro w hSw; (try dsimp only at hSw); go_simp; all_goals (with_reducible rfl)
  try simp only [Act.put, List.setIfInBounds_toArray, List.set_cons_zero, List.set_cons_succ]
  refine wpAnyH_here 21 (v := ?_) rfl (by kernel_rfl) (by kernel_rfl) (by kernel_rfl) (fun _ _ _ h => h) (Or.inl ⟨by rfl, ?_⟩) hHeld ?_
  rotate_left
  · intro w hSw; (try dsimp only at hSw); go_simp; all_goals (with_reducible rfl)
  try simp only [Act.put, List.setIfInBounds_toArray, List.set_cons_zero, List.set_cons_succ]
  refine wpAnyH_here 22 (v := ?_) rfl (by kernel_rfl) (by kernel_rfl) (by kernel_rfl) (fun _ _ _ h => h) (Or.inl ⟨by rfl, ?_⟩) hHeld ?_
  rotate_left
  · intro w hSw; (try dsimp only at hSw); go_simp; all_goals (with_reducible rfl)
  try simp only [Act.put, List.setIfInBounds_toArray, List.set_cons_zero, List.set_cons_succ]
  refine wpAnyH_alone 6 rfl (by kernel_rfl) (fun K hK => ?_)
  go_simp
  (go_at_call 18; refine (x1 _).mono ?_; rintro e V0 ⟨rfl, rfl⟩)
  refine hK.out _ _ (⟨c0, c1, c2, c3, c4, c5⟩) (fun hHeld => ?_)
  clear hK K
  try simp only [Act.put, List.setIfInBounds_toArray, List.set_cons_zero, List.set_cons_succ]
  refine wpAnyH_alone 9 rfl (by kernel_rfl) (fun K hK => ?_)
  go_simp
  (go_at_call 18; refine (x2 _).mono ?_; rintro e V1 ⟨rfl, rfl⟩)
  refine hK.out _ _ (⟨c0, c1, c2, c3, c4, c5⟩) (fun hHeld => ?_)
  clear hK K
  try simp only [Act.put, List.setIfInBounds_toArray, List.set_cons_zero, List.set_cons_succ]
  refine wpAnyH_here 10 (v := ?_) rfl (by kernel_rfl) (by kernel_rfl) (by kernel_rfl) (fun _ _ _ h => h) (Or.inl ⟨by rfl, ?_⟩) hHeld ?_
  rotate_left
  · intro w hSw; (try dsimp only at hSw); go_simp; all_goals (with_reducible rfl)
  try simp only [Act.put, List.setIfInBounds_toArray, List.set_cons_zero, List.set_cons_succ]
  refine wpAnyH_alone 13 rfl (by kernel_rfl) (fun K hK => ?_)
  go_simp
  (go_at_call 18; refine (x3 _).mono ?_; rintro e V2 ⟨rfl, rfl⟩)
  refine hK.out _ _ (⟨c0, c1, c2, c3, c4, c5⟩) (fun hHeld => ?_)
  clear hK K
  try simp only [Act.put, List.setIfInBounds_toArray, List.set_cons_zero, List.set_cons_succ]
  refine wpAnyH_here 14 (v := ?_) rfl (by kernel_rfl) (by kernel_rfl) (by kernel_rfl) (fun _ _ _ h => h) (Or.inl ⟨by rfl, ?_⟩) hHeld ?_
  rotate_left
  · intro w hSw; (try dsimp only at hSw); go_simp; all_goals (with_reducible rfl)
  try simp only [Act.put, List.setIfInBounds_toArray, List.set_cons_zero, List.set_cons_succ]
  refine wpAnyH_here 18 (v := ?_) rfl (by kernel_rfl) (by kernel_rfl) (by kernel_rfl) (fun _ _ _ h => h) (Or.inl ⟨by rfl, ?_⟩) hHeld ?_
  rotate_left
  · intro w hSw; (try dsimp only at hSw); go_simp; all_goals (with_reducible rfl)
  try simp only [Act.put, List.setIfInBounds_toArray, List.set_cons_zero, List.set_cons_succ]
  refine wpAnyH_here 19 (v := ?_) rfl (by kernel_rfl) (by kernel_rfl) (by kernel_rfl) (fun _ _ _ h => h) (Or.inl ⟨by rfl, ?_⟩) hHeld ?_
  rotate_left
  · intro w hSw; (try dsimp only at hSw); go_simp; all_goals (with_reducible rfl)
  try simp only [Act.put, List.setIfInBounds_toArray, List.set_cons_zero, List.set_cons_succ]
  have HB : Below w1.heap.size w1 (w1.alloc (.cells #[.int .u8 1, .int .u8 (M1 : Int), .int .u8 (G : Int), .int .u8 (Q : Int)] 5)).drew := (bel_new _ _).drew
  refine wpAnyH_alone 23 rfl (by kernel_rfl) (fun K hK => ?_)
  go_simp
  skip
  refine hK.out _ _ (⟨(HB.cell (p := ⟨w.heap.size, 0, none⟩) hlt).trans c0, (HB.cell (p := ⟨w.heap.size, 1, none⟩) hlt).trans c1, (HB.cell (p := ⟨w.heap.size, 2, none⟩) hlt).trans c2, (HB.cell (p := ⟨w.heap.size, 3, none⟩) hlt).trans c3, (HB.cell (p := ⟨w.heap.size, 4, none⟩) hlt).trans c4, (HB.cell (p := ⟨w.heap.size, 5, none⟩) hlt).trans c5⟩) (fun hHeld => ?_)
  clear hK K
  try simp only [Act.put, List.setIfInBounds_toArray, List.set_cons_zero, List.set_cons_succ]
  refine wpAnyH_here 24 (v := ?_) rfl (by kernel_rfl) (by kernel_rfl) (by kernel_rfl) (fun _ _ _ h => h) (Or.inl ⟨by rfl, ?_⟩) hHeld ?_
  rotate_left
  · intro w hSw; (try dsimp only at hSw); go_simp; all_goals (with_reducible rfl)
  try simp only [Act.put, List.setIfInBounds_toArray, List.set_cons_zero, List.set_cons_succ]
  refine wpAnyH_here 25 (v := ?_) rfl (by kernel_rfl) (by kernel_rfl) (by kernel_rfl) (fun _ _ _ h => h) (Or.inl ⟨by rfl, ?_⟩) hHeld ?_
  rotate_left
  · intro w hSw; (try dsimp only at hSw); go_simp; all_goals (with_reducible rfl)
  try simp only [Act.put, List.setIfInBounds_toArray, List.set_cons_zero, List.set_cons_succ]
  refine wpAnyH_done (by kernel_rfl) ?_ _
  go_wp2
  go_ret2
  have hsz : w.heap.size ≤ w1.heap.size := bel1.size
  exact ⟨_, rfl, (Ow_new w1 w.heap.size 5 (wd4 C G Q) 4 _ rfl HR.out hsz (by decide) _ rfl).drew, bel1.trans (HB.mono hsz)⟩

theorem zencode_any (ch : Int) (lk wt rt : Bool) (bp nx : Int) (w : World) :
    Calls Try.prog 8 #[.agg #[.int .i64 ch, .bool lk, .bool wt, .bool rt, .int .i64 bp, .int .i64 nx]] w fun e w' => ∃ v, e = .returned (.tuple #[v, .int .i64 (Cw.err ⟨ch, lk, wt, rt, bp, nx⟩)]) ∧ Ow w' w.heap.size 5 v (Cw.enc ⟨ch, lk, wt, rt, bp, nx⟩) ∧ Below w.heap.size w w' := by
  cases hok : Cw.ok ⟨ch, lk, wt, rt, bp, nx⟩ with
  | false =>
    rw [Cw.enc_no hok, Cw.err_no hok]
    exact (zencode_no ch lk wt rt bp nx w hok).mono fun e w' ⟨h1, h2⟩ => ⟨_, h1, Ow_nil _ _, h2⟩
  | true =>
    rw [Cw.enc_yes hok, Cw.err_yes hok]
    obtain ⟨h1, h2, h3, h4, h5, h6⟩ := Cw.ok_fits hok
    simp only at h1 h2 h3 h4 h5 h6
    obtain ⟨C, rfl⟩ := Int.eq_ofNat_of_zero_le h1
    obtain ⟨B, rfl⟩ := Int.eq_ofNat_of_zero_le h3
    obtain ⟨Q, rfl⟩ := Int.eq_ofNat_of_zero_le h5
    exact zencode_yes C B Q lk wt rt w hok (by omega) (by omega) (by omega)
end Go.Proofs.Ytmfiklofmjaldaa.Clc
