/-
  Ref17e Ref17f Ref17g, one after another.
-/
import Derived.Test.YtdpjjhbfhlmolaaFopp1

/-
  The reference of layer 17: Next with a data frame.
-/
namespace Go.Proofs.Ytdpjjhbfhlmolaa.Fop
open Go.RowKit
open Pac (bel_new Cel.later)
open Tcf (Fr)

theorem if_max_e (a b : Int) : (if a < b then b else a) = max a b := by split <;> omega

set_option maxRecDepth 100000 in
set_option maxHeartbeats 16000000 in
theorem xnext_send (m : Int) (K H W T R : Int) (b off : Nat) (n c : Nat) (ac : Int) (i : Nat) (fr : Int) (A2 : Option Addr) (c2 : Nat) (nw tm rp : Int) (w : World) {nw1 M : Int} (hN : adn m nw = nw1) (hn : n ≠ 0) (hM : min (n : Int) W = M) {Q G : Int} (hf : (i : Int) < M) (a0 : 0 ≤ ac) (a1 : ac ≤ 1099511627776) (hn2 : n ≤ 256) (hQ : (ac + (i : Int)) % 256 = Q) (hG : max fr ((i : Int) + 1) = G) (a : Option Addr) (N cd : Nat) (hlt : b < w.heap.size) (hcell : w.cell? ⟨b, off + i, none⟩ = some (.slice a N cd)) :
    Calls Try.prog 15 #[.agg #[.int .i64 K, .int .i64 H, .int .i64 W, .int .i64 T, .int .i64 R, .int .i64 1, .slice (some ⟨b, off, none⟩) n c, .int .i64 ac, .int .i64 (i : Int), .int .i64 fr, .slice A2 0 c2, .int .i64 nw, .int .i64 tm, .int .i64 rp], .int .i64 m] w fun e w' => (e = .returned (.tuple #[.agg #[.int .i64 K, .int .i64 H, .int .i64 W, .int .i64 T, .int .i64 R, .int .i64 1, .slice (some ⟨b, off, none⟩) n c, .int .i64 ac, .int .i64 ((i : Int) + 1), .int .i64 G, .slice A2 0 c2, .int .i64 nw1, .int .i64 nw1, .int .i64 rp], .agg #[.bool false, .bool false, .int .i64 K, .int .i64 H, .int .i64 Q, .slice a N cd], .bool true])) ∧ Below w.heap.size w w' := by
  have HQ := Lib.hid hQ
  have HG0 := Lib.hid hG
  clear hQ hG
  have mm1 : (if W < (n : Int) then W else (n : Int)) = M := by split <;> omega
  have tn1 : ((n : Int) == 0) = false := by simpa using hn
  have tn2 : decide (n = 0) = false := by simpa using hn
  have ts1 : ((1 : Int) != 1) = false := rfl
  have i1 : (i : Int) < (n : Int) := by omega
  have i2 : i < n := by omega
  have i0 : (0 : Int) ≤ (i : Int) := Int.natCast_nonneg _
  have d1 : decide (M ≤ (i : Int)) = false := by simp; omega
  obtain ⟨S, hS⟩ : ∃ S, S = ac + (i : Int) := ⟨_, rfl⟩
  have s1 : ac + (i : Int) = S := hS.symm
  have s2 : wrap64 (ac + (i : Int)) = S := by rw [wr64 (by omega) (by omega)]; exact hS.symm
  have s0 : 0 ≤ S := by omega
  have s2c : wrap64 S = S := wr64 (by omega) (by omega)
  have s2d : IntKind.i64.wrap S = S := by rw [IntKind.wrap_i64]; omega
  have s3 : S.tmod 256 = Q := by rw [Int.tmod_eq_emod_of_nonneg s0, ← s1]; exact HQ.out
  have s3b : S % 256 = Q := by rw [← s1]; exact HQ.out
  have HS3 := Lib.hid (And.intro s3 s3b)
  clear s3 s3b s0
  obtain ⟨F1, hF1⟩ : ∃ F1, F1 = (i : Int) + 1 := ⟨_, rfl⟩
  rw [← hF1]
  have s4 : (i : Int) + 1 = F1 := hF1.symm
  have s5 : wrap64 F1 = F1 := wr64 (by omega) (by omega)
  have hG : max fr F1 = G := by rw [hF1]; exact HG0.out
  have HMM := Lib.hid (And.intro hM mm1)
  clear hM mm1
  have s6 : (if fr < F1 then F1 else fr) = G := by rw [if_max_e]; exact hG
  obtain ⟨s3, hQ⟩ := HS3.out
  have HA := Lib.hid (And.intro s1 (And.intro (And.intro s2c s2d) (And.intro s3 hQ)))
  have HG := Lib.hid (And.intro s6 hG)
  obtain ⟨hM, mm1⟩ := HMM.out
  clear hS hF1 hf hn a0 a1 hn2 s1 s2 s2c s2d s3 hQ s6 hG
  obtain ⟨w3, hw3⟩ : ∃ w3, w3 = ((w.alloc (.cells #[.int .i64 K, .int .i64 H, .int .i64 W, .int .i64 T, .int .i64 R, .int .i64 1, .slice (some ⟨b, off, none⟩) n c, .int .i64 ac, .int .i64 (i : Int), .int .i64 fr, .slice A2 0 c2, .int .i64 nw, .int .i64 tm, .int .i64 rp] 31)).alloc (.cells #[.int .i64 0, .int .i64 0, .int .i64 0, .int .i64 0, .int .i64 0, .int .i64 0, .slice none 0 0, .int .i64 0, .int .i64 0, .int .i64 0, .slice none 0 0, .int .i64 0, .int .i64 0, .int .i64 0] 31)).alloc (.cells #[.bool false, .bool false, .int .i64 0, .int .i64 0, .int .i64 0, .slice none 0 0] 43) := ⟨_, rfl⟩
  have b3 : Below w.heap.size w w3 := by rw [hw3]; exact ((bel_new _ _).alloc (by simp) _).alloc (by simp; omega) _
  have pr3 : Cel w3 w.heap.size 31 #[.int .i64 K, .int .i64 H, .int .i64 W, .int .i64 T, .int .i64 R, .int .i64 1, .slice (some ⟨b, off, none⟩) n c, .int .i64 ac, .int .i64 (i : Int), .int .i64 fr, .slice A2 0 c2, .int .i64 nw, .int .i64 tm, .int .i64 rp] := by rw [hw3]; exact Cel.later (Cel.later (Cel_at rfl) (bel_new _ _)) (bel_new _ _)
  have pz3 : Cel w3 (w.heap.size + 1) 31 #[.int .i64 0, .int .i64 0, .int .i64 0, .int .i64 0, .int .i64 0, .int .i64 0, .slice none 0 0, .int .i64 0, .int .i64 0, .int .i64 0, .slice none 0 0, .int .i64 0, .int .i64 0, .int .i64 0] := by rw [hw3]; exact Cel.later (Cel_at (by simp)) (bel_new _ _)
  have pq3 : Cel w3 (w.heap.size + 1 + 1) 43 #[.bool false, .bool false, .int .i64 0, .int .i64 0, .int .i64 0, .slice none 0 0] := by rw [hw3]; exact Cel_at (by simp)
  have xa := xat_any m K H W T R 1 (some ⟨b, off, none⟩) n c ac (i : Int) fr A2 0 c2 nw tm rp w3 hN
  have HP := Lib.hid (And.intro pr3 (And.intro pz3 pq3))
  have HB := Lib.hid b3
  clear pr3 pz3 pq3 b3 hN
  go_enter Try.func15, Try.ntmps15
  go_wp2_with fail
  rw [← hw3]
  clear hw3
  refine xa.mono ?_
  rintro e w4 ⟨rfl, k4⟩
  clear xa
  have pr4 := Cel.later HP.out.1 k4
  have pz4 := Cel.later HP.out.2.1 k4
  have pq4 := Cel.later HP.out.2.2 k4
  have b4 := HB.out.trans (k4.mono HB.out.size)
  obtain ⟨W5, hW5⟩ : ∃ W5, W5 = put14 w4 w.heap.size (.int .i64 K) (.int .i64 H) (.int .i64 W) (.int .i64 T) (.int .i64 R) (.int .i64 1) (.slice (some ⟨b, off, none⟩) n c) (.int .i64 ac) (.int .i64 (i : Int)) (.int .i64 fr) (.slice A2 0 c2) (.int .i64 nw1) (.int .i64 tm) (.int .i64 rp) := ⟨_, rfl⟩
  have k5 : Only [w.heap.size] w4 W5 := by rw [hW5]; exact put14_only _ _ _ _ _ _ _ _ _ _ _ _ _ _ _ _
  have pr5 : Cel W5 w.heap.size 31 #[.int .i64 K, .int .i64 H, .int .i64 W, .int .i64 T, .int .i64 R, .int .i64 1, .slice (some ⟨b, off, none⟩) n c, .int .i64 ac, .int .i64 (i : Int), .int .i64 fr, .slice A2 0 c2, .int .i64 nw1, .int .i64 tm, .int .i64 rp] := by rw [hW5]; exact put14_cel pr4 _ _ _ _ _ _ _ _ _ _ _ _ _ _
  have pz5 := pz4.only k5 (by simp)
  have pq5 := pq4.only k5 (by simp; omega)
  have b5 := b4.trans (k5.below b4.size (by simp))
  unfold put14 at hW5
  have a0 := pr4.cell 0
  have a1 := pr4.cell 1
  have a2 := pr4.cell 2
  have a3 := pr4.cell 3
  have a4 := pr4.cell 4
  have a5 := pr4.cell 5
  have a6 := pr4.cell 6
  have a7 := pr4.cell 7
  have a8 := pr4.cell 8
  have a9 := pr4.cell 9
  have a10 := pr4.cell 10
  have a11 := pr4.cell 11
  have a12 := pr4.cell 12
  have a13 := pr4.cell 13
  simp at a0 a1 a2 a3 a4 a5 a6 a7 a8 a9 a10 a11 a12 a13
  have ya0 := pr4.free 0
  have ya1 := pr4.free 1
  have ya2 := pr4.free 2
  have ya3 := pr4.free 3
  have ya4 := pr4.free 4
  have ya5 := pr4.free 5
  have ya6 := pr4.free 6
  have ya7 := pr4.free 7
  have ya8 := pr4.free 8
  have ya9 := pr4.free 9
  have ya10 := pr4.free 10
  have ya11 := pr4.free 11
  have ya12 := pr4.free 12
  have ya13 := pr4.free 13
  clear k4 k5 pz4 pq4 b4 pr4
  go_upto_region 2 with fail
  rw [← hW5]
  clear hW5 a0 ya0 a1 ya1 a2 ya2 a3 ya3 a4 ya4 a5 ya5 a6 ya6 a7 ya7 a8 ya8 a9 ya9 a10 ya10 a11 ya11 a12 ya12 a13 ya13
  have r0 := pr5.cell 0
  have r1 := pr5.cell 1
  have r2 := pr5.cell 2
  have r3 := pr5.cell 3
  have r4 := pr5.cell 4
  have r5 := pr5.cell 5
  have r6 := pr5.cell 6
  have r7 := pr5.cell 7
  have r8 := pr5.cell 8
  have r9 := pr5.cell 9
  have r10 := pr5.cell 10
  have r11 := pr5.cell 11
  have r12 := pr5.cell 12
  have r13 := pr5.cell 13
  simp at r0 r1 r2 r3 r4 r5 r6 r7 r8 r9 r10 r11 r12 r13
  have yr0 := pr5.free 0
  have yr1 := pr5.free 1
  have yr2 := pr5.free 2
  have yr3 := pr5.free 3
  have yr4 := pr5.free 4
  have yr5 := pr5.free 5
  have yr6 := pr5.free 6
  have yr7 := pr5.free 7
  have yr8 := pr5.free 8
  have yr9 := pr5.free 9
  have yr10 := pr5.free 10
  have yr11 := pr5.free 11
  have yr12 := pr5.free 12
  have yr13 := pr5.free 13
  have z0 := pz5.cell 0
  have z1 := pz5.cell 1
  have z2 := pz5.cell 2
  have z3 := pz5.cell 3
  have z4 := pz5.cell 4
  have z5 := pz5.cell 5
  have z6 := pz5.cell 6
  have z7 := pz5.cell 7
  have z8 := pz5.cell 8
  have z9 := pz5.cell 9
  have z10 := pz5.cell 10
  have z11 := pz5.cell 11
  have z12 := pz5.cell 12
  have z13 := pz5.cell 13
  simp at z0 z1 z2 z3 z4 z5 z6 z7 z8 z9 z10 z11 z12 z13
  have yz0 := pz5.free 0
  have yz1 := pz5.free 1
  have yz2 := pz5.free 2
  have yz3 := pz5.free 3
  have yz4 := pz5.free 4
  have yz5 := pz5.free 5
  have yz6 := pz5.free 6
  have yz7 := pz5.free 7
  have yz8 := pz5.free 8
  have yz9 := pz5.free 9
  have yz10 := pz5.free 10
  have yz11 := pz5.free 11
  have yz12 := pz5.free 12
  have yz13 := pz5.free 13
  have q0 := pq5.cell 0
  have q1 := pq5.cell 1
  have q2 := pq5.cell 2
  have q3 := pq5.cell 3
  have q4 := pq5.cell 4
  have q5 := pq5.cell 5
  simp at q0 q1 q2 q3 q4 q5
  have yq0 := pq5.free 0
  have yq1 := pq5.free 1
  have yq2 := pq5.free 2
  have yq3 := pq5.free 3
  have yq4 := pq5.free 4
  have yq5 := pq5.free 5
  have hcell := (b5.cell (p := ⟨b, off + i, none⟩) hlt).trans hcell
  go_upto_region 16 with fail
  obtain ⟨s1, ⟨s2, s2d⟩, s3, hQ⟩ := HA.out
  have hLb : b < W5.heap.size := Nat.lt_of_lt_of_le hlt b5.size
  have hLr : w.heap.size < W5.heap.size := pr5.lt
  have hS5 : ∀ W, Below W5.heap.size W5 W → (fun W => W.cell? ⟨w.heap.size, 0, none⟩ = some (.int .i64 K) ∧ W.cell? ⟨w.heap.size, 1, none⟩ = some (.int .i64 H) ∧ W.cell? ⟨w.heap.size, 6, none⟩ = some (.slice (some ⟨b, off, none⟩) n c) ∧ W.cell? ⟨w.heap.size, 7, none⟩ = some (.int .i64 ac) ∧ W.cell? ⟨w.heap.size, 8, none⟩ = some (.int .i64 (i : Int)) ∧ W.cell? ⟨b, off + i, none⟩ = some (.slice a N cd)) W := fun W k => ⟨(k.cell (p := ⟨w.heap.size, 0, none⟩) hLr).trans r0, (k.cell (p := ⟨w.heap.size, 1, none⟩) hLr).trans r1, (k.cell (p := ⟨w.heap.size, 6, none⟩) hLr).trans r6, (k.cell (p := ⟨w.heap.size, 7, none⟩) hLr).trans r7, (k.cell (p := ⟨w.heap.size, 8, none⟩) hLr).trans r8, (k.cell (p := ⟨b, off + i, none⟩) hLb).trans hcell⟩
  have kD : Below W5.heap.size W5 W5.drew := drewN_below _ 1
  refine wp_region_held_drew (S := fun W => W.cell? ⟨w.heap.size, 0, none⟩ = some (.int .i64 K) ∧ W.cell? ⟨w.heap.size, 1, none⟩ = some (.int .i64 H) ∧ W.cell? ⟨w.heap.size, 6, none⟩ = some (.slice (some ⟨b, off, none⟩) n c) ∧ W.cell? ⟨w.heap.size, 7, none⟩ = some (.int .i64 ac) ∧ W.cell? ⟨w.heap.size, 8, none⟩ = some (.int .i64 (i : Int)) ∧ W.cell? ⟨b, off + i, none⟩ = some (.slice a N cd)) (by kernel_rfl) (hS5 _ kD) (fun hHeld => ?_)
  refine wpAnyH_here 0 (v := ?_) rfl (by kernel_rfl) (by kernel_rfl) (by kernel_rfl) (fun _ _ _ h => h) (Or.inl ⟨by rfl, ?_⟩) hHeld ?_
  rotate_left
  · intro w hSw; (try dsimp only at hSw); go_simp; all_goals (with_reducible rfl)
  try simp only [Act.put, List.setIfInBounds_toArray, List.set_cons_zero, List.set_cons_succ]
  refine wpAnyH_here 1 (v := ?_) rfl (by kernel_rfl) (by kernel_rfl) (by kernel_rfl) (fun _ _ _ h => h) (Or.inl ⟨by rfl, ?_⟩) hHeld ?_
  rotate_left
  · intro w hSw; (try dsimp only at hSw); go_simp; all_goals (with_reducible rfl)
  try simp only [Act.put, List.setIfInBounds_toArray, List.set_cons_zero, List.set_cons_succ]
  refine wpAnyH_here 2 (v := ?_) rfl (by kernel_rfl) (by kernel_rfl) (by kernel_rfl) (fun _ _ _ h => h) (Or.inl ⟨by rfl, ?_⟩) hHeld ?_
  rotate_left
  · intro w hSw; (try dsimp only at hSw); go_simp; all_goals (with_reducible rfl)
  try simp only [Act.put, List.setIfInBounds_toArray, List.set_cons_zero, List.set_cons_succ]
  refine wpAnyH_here 3 (v := ?_) rfl (by kernel_rfl) (by kernel_rfl) (by kernel_rfl) (fun _ _ _ h => h) (Or.inl ⟨by rfl, ?_⟩) hHeld ?_
  rotate_left
  · intro w hSw; (try dsimp only at hSw); go_simp; all_goals (with_reducible rfl)
  try simp only [Act.put, List.setIfInBounds_toArray, List.set_cons_zero, List.set_cons_succ]
  refine wpAnyH_here 4 (v := ?_) rfl (by kernel_rfl) (by kernel_rfl) (by kernel_rfl) (fun _ _ _ h => h) (Or.inl ⟨by rfl, ?_⟩) hHeld ?_
  rotate_left
  · intro w hSw; (try dsimp only at hSw); go_simp; all_goals (with_reducible rfl)
  try simp only [Act.put, List.setIfInBounds_toArray, List.set_cons_zero, List.set_cons_succ]
  refine wpAnyH_here 5 (v := ?_) rfl (by kernel_rfl) (by kernel_rfl) (by kernel_rfl) (fun _ _ _ h => h) (Or.inl ⟨by rfl, ?_⟩) hHeld ?_
  rotate_left
  · intro w hSw; (try dsimp only at hSw); go_simp; all_goals (with_reducible rfl)
  try simp only [Act.put, List.setIfInBounds_toArray, List.set_cons_zero, List.set_cons_succ]
  refine wpAnyH_here 6 (v := ?_) rfl (by kernel_rfl) (by kernel_rfl) (by kernel_rfl) (fun _ _ _ h => h) (Or.inl ⟨by rfl, ?_⟩) hHeld ?_
  rotate_left
  · intro w hSw; (try dsimp only at hSw); go_simp; all_goals (with_reducible rfl)
  try simp only [Act.put, List.setIfInBounds_toArray, List.set_cons_zero, List.set_cons_succ]
  refine wpAnyH_here 7 (v := ?_) rfl (by kernel_rfl) (by kernel_rfl) (by kernel_rfl) (fun _ _ _ h => h) (Or.inl ⟨by rfl, ?_⟩) hHeld ?_
  rotate_left
  · intro w hSw; (try dsimp only at hSw); go_simp; all_goals (with_reducible rfl)
  try simp only [Act.put, List.setIfInBounds_toArray, List.set_cons_zero, List.set_cons_succ]
  refine wpAnyH_here 8 (v := ?_) rfl (by kernel_rfl) (by kernel_rfl) (by kernel_rfl) (fun _ _ _ h => h) (Or.inl ⟨by rfl, ?_⟩) hHeld ?_
  rotate_left
  · intro w hSw; (try dsimp only at hSw); go_simp; all_goals (with_reducible rfl)
  try simp only [Act.put, List.setIfInBounds_toArray, List.set_cons_zero, List.set_cons_succ]
  refine wpAnyH_here 9 (v := ?_) rfl (by kernel_rfl) (by kernel_rfl) (by kernel_rfl) (fun _ _ _ h => h) (Or.inl ⟨by rfl, ?_⟩) hHeld ?_
  rotate_left
  · intro w hSw; (try dsimp only at hSw); go_simp; all_goals (with_reducible rfl)
  try simp only [Act.put, List.setIfInBounds_toArray, List.set_cons_zero, List.set_cons_succ]
  refine wpAnyH_here 10 (v := ?_) rfl (by kernel_rfl) (by kernel_rfl) (by kernel_rfl) (fun _ _ _ h => h) (Or.inl ⟨by rfl, ?_⟩) hHeld ?_
  rotate_left
  · intro w hSw; (try dsimp only at hSw); go_simp; all_goals (with_reducible rfl)
  try simp only [Act.put, List.setIfInBounds_toArray, List.set_cons_zero, List.set_cons_succ]
  refine wpAnyH_here 11 (v := ?_) rfl (by kernel_rfl) (by kernel_rfl) (by kernel_rfl) (fun _ _ _ h => h) (Or.inl ⟨by rfl, ?_⟩) hHeld ?_
  rotate_left
  · intro w hSw; (try dsimp only at hSw); go_simp; all_goals (with_reducible rfl)
  try simp only [Act.put, List.setIfInBounds_toArray, List.set_cons_zero, List.set_cons_succ]
  refine wpAnyH_here 12 (v := ?_) rfl (by kernel_rfl) (by kernel_rfl) (by kernel_rfl) (fun _ _ _ h => h) (Or.inl ⟨by rfl, ?_⟩) hHeld ?_
  rotate_left
  · intro w hSw; (try dsimp only at hSw); go_simp; all_goals (with_reducible rfl)
  try simp only [Act.put, List.setIfInBounds_toArray, List.set_cons_zero, List.set_cons_succ]
  refine wpAnyH_here 13 (v := ?_) rfl (by kernel_rfl) (by kernel_rfl) (by kernel_rfl) (fun _ _ _ h => h) (Or.inl ⟨by rfl, ?_⟩) hHeld ?_
  rotate_left
  · intro w hSw; (try dsimp only at hSw); go_simp; all_goals (with_reducible rfl)
  try simp only [Act.put, List.setIfInBounds_toArray, List.set_cons_zero, List.set_cons_succ]
  refine wpAnyH_here 14 (v := ?_) rfl (by kernel_rfl) (by kernel_rfl) (by kernel_rfl) (fun _ _ _ h => h) (Or.inl ⟨by rfl, ?_⟩) hHeld ?_
  rotate_left
  · intro w hSw; (try dsimp only at hSw); go_simp; all_goals (with_reducible rfl)
  try simp only [Act.put, List.setIfInBounds_toArray, List.set_cons_zero, List.set_cons_succ]
  refine wpAnyH_here 15 (v := ?_) rfl (by kernel_rfl) (by kernel_rfl) (by kernel_rfl) (fun _ _ _ h => h) (Or.inl ⟨by rfl, ?_⟩) hHeld ?_
  rotate_left
  · intro w hSw; (try dsimp only at hSw); go_simp; all_goals (with_reducible rfl)
  try simp only [Act.put, List.setIfInBounds_toArray, List.set_cons_zero, List.set_cons_succ]
  refine wpAnyH_here 16 (v := ?_) rfl (by kernel_rfl) (by kernel_rfl) (by kernel_rfl) (fun _ _ _ h => h) (Or.inl ⟨by rfl, ?_⟩) hHeld ?_
  rotate_left
  · intro w hSw; (try dsimp only at hSw); go_simp; all_goals (with_reducible rfl)
  try simp only [Act.put, List.setIfInBounds_toArray, List.set_cons_zero, List.set_cons_succ]
  obtain ⟨WD, hWD⟩ : ∃ WD, WD = W5.drew := ⟨_, rfl⟩
  rw [← hWD] at kD hHeld ⊢
  clear hWD
  refine wpAnyH_alone 17 rfl (by kernel_rfl) (fun K_ hK => ?_)
  go_simp
  obtain ⟨F, hF⟩ : ∃ F, F = WD.heap.size := ⟨_, rfl⟩
  have y8 := Cel.new WD 43 #[.bool false, .bool false, .int .i64 0, .int .i64 0, .int .i64 0, .slice none 0 0]
  have k8 := kD.trans ((bel_new WD (.cells #[.bool false, .bool false, .int .i64 0, .int .i64 0, .int .i64 0, .slice none 0 0] 43)).mono kD.size)
  obtain ⟨W8, hW8⟩ : ∃ W8, W8 = WD.alloc (.cells #[.bool false, .bool false, .int .i64 0, .int .i64 0, .int .i64 0, .slice none 0 0] 43) := ⟨_, rfl⟩
  have hFlo : W5.heap.size ≤ F := by rw [hF]; exact kD.size
  rw [← hW8] at y8 k8 ⊢
  rw [← hF] at y8 ⊢
  clear hW8 hF
  refine hK.out _ _ (hS5 _ k8) (fun hHeld => ?_)
  clear hK K_
  try simp only [Act.put, List.setIfInBounds_toArray, List.set_cons_zero, List.set_cons_succ]
  refine wpAnyH_alone 18 rfl (by kernel_rfl) (fun K_ hK => ?_)
  have fc0 := y8.cell 0
  have fc1 := y8.cell 1
  have fc2 := y8.cell 2
  have fc3 := y8.cell 3
  have fc4 := y8.cell 4
  have fc5 := y8.cell 5
  simp at fc0 fc1 fc2 fc3 fc4 fc5
  have ff0 := y8.free 0
  have ff1 := y8.free 1
  have ff2 := y8.free 2
  have ff3 := y8.free 3
  have ff4 := y8.free 4
  have ff5 := y8.free 5
  have p9 := put6_only W8 F (.bool false) (.bool false) (.int .i64 K) (.int .i64 H) (.int .i64 Q) (.slice a N cd)
  have y9 := put6_cel y8 (.bool false) (.bool false) (.int .i64 K) (.int .i64 H) (.int .i64 Q) (.slice a N cd)
  have k9 := k8.trans (p9.below k8.size (fun x hx => by obtain rfl := List.mem_singleton.1 hx; exact hFlo))
  unfold put6 at y9 k9
  have H9 := Lib.hid (And.intro y9 (And.intro k9 (hS5 _ k9)))
  clear y9 k9 p9 y8 k8 hS5 hHeld
  go_simp
  refine hK.out _ _ H9.out.2.2 (fun hHeld => ?_)
  clear hK K_
  try simp only [Act.put, List.setIfInBounds_toArray, List.set_cons_zero, List.set_cons_succ]
  refine wpAnyH_done (by kernel_rfl) ?_ _
  obtain ⟨W6, hW6⟩ : ∃ W6, W6 = put6 W8 F (.bool false) (.bool false) (.int .i64 K) (.int .i64 H) (.int .i64 Q) (.slice a N cd) := ⟨_, rfl⟩
  unfold put6 at hW6
  rw [← hW6] at H9 ⊢
  obtain ⟨y9, k9, _⟩ := H9.out
  clear hW6 hHeld H9 fc0 ff0 fc1 ff1 fc2 ff2 fc3 ff3 fc4 ff4 fc5 ff5 kD hcell
  clear s1 s2 s2d s3 hQ
  obtain ⟨s6, hG⟩ := HG.out
  have pr6 := Cel.later pr5 k9
  have pz6 := Cel.later pz5 k9
  have pq6 := Cel.later pq5 k9
  have pf6 := y9
  have b6 := b5.trans (k9.mono b5.size)
  have HLT := Lib.hid pq5.lt
  have HLF := Lib.hid hFlo
  clear r0 z0 yz0 r1 z1 yz1 r2 z2 yz2 r3 z3 yz3 r4 z4 yz4 r5 z5 yz5 r6 z6 yz6 r7 z7 yz7 r8 z8 yz8 r9 z9 yz9 r10 z10 yz10 r11 z11 yz11 r12 z12 yz12 r13 z13 yz13 q0 yq0 q1 yq1 q2 yq2 q3 yq3 q4 yq4 q5 yq5
  clear yr0 yr1 yr2 yr3 yr4 yr5 yr6 yr7 yr8 yr9 yr10 yr11 yr12 yr13
  clear y9 k9 b5 pr5 pz5 pq5 hFlo hLb hLr
  have hFne : F ≠ w.heap.size := fun e => by have := HLT.out; have := HLF.out; omega
  have hF1 : F ≠ w.heap.size + 1 := fun e => by have := HLT.out; have := HLF.out; omega
  have hF2 : F ≠ w.heap.size + 1 + 1 := fun e => by have := HLT.out; have := HLF.out; omega
  have hG1 := hF1.symm
  have hG2 := hF2.symm
  have r0 := pr6.cell 0
  have r1 := pr6.cell 1
  have r2 := pr6.cell 2
  have r3 := pr6.cell 3
  have r4 := pr6.cell 4
  have r5 := pr6.cell 5
  have r6 := pr6.cell 6
  have r7 := pr6.cell 7
  have r8 := pr6.cell 8
  have r9 := pr6.cell 9
  have r10 := pr6.cell 10
  have r11 := pr6.cell 11
  have r12 := pr6.cell 12
  have r13 := pr6.cell 13
  simp at r0 r1 r2 r3 r4 r5 r6 r7 r8 r9 r10 r11 r12 r13
  have yr0 := pr6.free 0
  have yr1 := pr6.free 1
  have yr2 := pr6.free 2
  have yr3 := pr6.free 3
  have yr4 := pr6.free 4
  have yr5 := pr6.free 5
  have yr6 := pr6.free 6
  have yr7 := pr6.free 7
  have yr8 := pr6.free 8
  have yr9 := pr6.free 9
  have yr10 := pr6.free 10
  have yr11 := pr6.free 11
  have yr12 := pr6.free 12
  have yr13 := pr6.free 13
  obtain ⟨W7, hW7⟩ : ∃ W7, W7 = ((W6.setCell ⟨w.heap.size, 8, none⟩ (.int .i64 F1)).setCell ⟨w.heap.size, 9, none⟩ (.int .i64 G)).setCell ⟨w.heap.size, 12, none⟩ (.int .i64 nw1) := ⟨_, rfl⟩
  have k7 : Only [w.heap.size] W6 W7 := by rw [hW7]; exact only_put (only_put (put_only _ _ 8 _) 9 _) 12 _
  have pr7 : Cel W7 w.heap.size 31 #[.int .i64 K, .int .i64 H, .int .i64 W, .int .i64 T, .int .i64 R, .int .i64 1, .slice (some ⟨b, off, none⟩) n c, .int .i64 ac, .int .i64 F1, .int .i64 G, .slice A2 0 c2, .int .i64 nw1, .int .i64 nw1, .int .i64 rp] := by rw [hW7]; exact ((pr6.put 8 _).put 9 _).put 12 _
  have pf7 := pf6.only k7 (by simpa using hFne)
  have pz7 := pz6.only k7 (by simp)
  have pq7 := pq6.only k7 (by simp; omega)
  have b7 := b6.trans (k7.below b6.size (by simp))
  have HFIN := Lib.hid (fin2 b7 b7.size pz7 pq7 (by omega) (by omega) (.int .i64 K) (.int .i64 H) (.int .i64 W) (.int .i64 T) (.int .i64 R) (.int .i64 1) (.slice (some ⟨b, off, none⟩) n c) (.int .i64 ac) (.int .i64 F1) (.int .i64 G) (.slice A2 0 c2) (.int .i64 nw1) (.int .i64 nw1) (.int .i64 rp) (.bool false) (.bool false) (.int .i64 K) (.int .i64 H) (.int .i64 Q) (.slice a N cd))
  unfold put14 put6 at HFIN
  go_upto_region 20 with fail
  rw [← hW7]
  clear r0 yr0 r1 yr1 r2 yr2 r3 yr3 r4 yr4 r5 yr5 r6 yr6 r7 yr7 r8 yr8 r9 yr9 r10 yr10 r11 yr11 r12 yr12 r13 yr13 hW7
  have r0 := pr7.cell 0
  have r1 := pr7.cell 1
  have r2 := pr7.cell 2
  have r3 := pr7.cell 3
  have r4 := pr7.cell 4
  have r5 := pr7.cell 5
  have r6 := pr7.cell 6
  have r7 := pr7.cell 7
  have r8 := pr7.cell 8
  have r9 := pr7.cell 9
  have r10 := pr7.cell 10
  have r11 := pr7.cell 11
  have r12 := pr7.cell 12
  have r13 := pr7.cell 13
  simp at r0 r1 r2 r3 r4 r5 r6 r7 r8 r9 r10 r11 r12 r13
  have z0 := pz7.cell 0
  have z1 := pz7.cell 1
  have z2 := pz7.cell 2
  have z3 := pz7.cell 3
  have z4 := pz7.cell 4
  have z5 := pz7.cell 5
  have z6 := pz7.cell 6
  have z7 := pz7.cell 7
  have z8 := pz7.cell 8
  have z9 := pz7.cell 9
  have z10 := pz7.cell 10
  have z11 := pz7.cell 11
  have z12 := pz7.cell 12
  have z13 := pz7.cell 13
  simp at z0 z1 z2 z3 z4 z5 z6 z7 z8 z9 z10 z11 z12 z13
  have yz0 := pz7.free 0
  have yz1 := pz7.free 1
  have yz2 := pz7.free 2
  have yz3 := pz7.free 3
  have yz4 := pz7.free 4
  have yz5 := pz7.free 5
  have yz6 := pz7.free 6
  have yz7 := pz7.free 7
  have yz8 := pz7.free 8
  have yz9 := pz7.free 9
  have yz10 := pz7.free 10
  have yz11 := pz7.free 11
  have yz12 := pz7.free 12
  have yz13 := pz7.free 13
  have q0 := pq7.cell 0
  have q1 := pq7.cell 1
  have q2 := pq7.cell 2
  have q3 := pq7.cell 3
  have q4 := pq7.cell 4
  have q5 := pq7.cell 5
  simp at q0 q1 q2 q3 q4 q5
  have yq0 := pq7.free 0
  have yq1 := pq7.free 1
  have yq2 := pq7.free 2
  have yq3 := pq7.free 3
  have yq4 := pq7.free 4
  have yq5 := pq7.free 5
  have f0 := pf7.cell 0
  have f1 := pf7.cell 1
  have f2 := pf7.cell 2
  have f3 := pf7.cell 3
  have f4 := pf7.cell 4
  have f5 := pf7.cell 5
  simp at f0 f1 f2 f3 f4 f5
  clear k7 pr7 pz7 pq7 pf7 b7 b6 pr6 pz6 pq6 pf6
  go_region
  go_wp2
  exact bodyPost_ret (xnx_results rfl rfl rfl (HFIN.out.1.draws 1) (HFIN.out.2.1.draws 1)) rfl ⟨rfl, HFIN.out.2.2.trans ((drewN_below _ 1).mono HFIN.out.2.2.size)⟩

end Go.Proofs.Ytdpjjhbfhlmolaa.Fop

/-
  The reference of layer 17: Next that repeats.
-/
namespace Go.Proofs.Ytdpjjhbfhlmolaa.Fop
open Go.RowKit
open Pac (bel_new Cel.later)
open Tcf (Fr)

theorem if_max_f (a b : Int) : (if a < b then b else a) = max a b := by split <;> omega

set_option maxRecDepth 100000 in
set_option maxHeartbeats 16000000 in
theorem xnext_again (m : Int) (K H W T R : Int) (b off : Nat) (n c : Nat) (ac fl fr : Int) (A2 : Option Addr) (c2 : Nat) (nw tm rp : Int) (w : World) {nw1 M : Int} (hN : adn m nw = nw1) (hn : n ≠ 0) (hM : min (n : Int) W = M) {Q G : Int} (hf : M ≤ fl) (t0 : 0 ≤ tm) (t1 : tm ≤ 1099511627776) (t2 : 0 ≤ T) (t3 : T ≤ 1099511627776) (ht : tm + T ≤ nw1) (hr : rp < R) (p0 : 0 ≤ rp) (p1 : R ≤ 255) (a0 : 0 ≤ ac) (a1 : ac ≤ 1099511627776) (hQ : ac % 256 = Q) (hG : max fr 1 = G) (a : Option Addr) (N cd : Nat) (hlt : b < w.heap.size) (hcell : w.cell? ⟨b, off, none⟩ = some (.slice a N cd)) :
    Calls Try.prog 15 #[.agg #[.int .i64 K, .int .i64 H, .int .i64 W, .int .i64 T, .int .i64 R, .int .i64 1, .slice (some ⟨b, off, none⟩) n c, .int .i64 ac, .int .i64 fl, .int .i64 fr, .slice A2 0 c2, .int .i64 nw, .int .i64 tm, .int .i64 rp], .int .i64 m] w fun e w' => (e = .returned (.tuple #[.agg #[.int .i64 K, .int .i64 H, .int .i64 W, .int .i64 T, .int .i64 R, .int .i64 1, .slice (some ⟨b, off, none⟩) n c, .int .i64 ac, .int .i64 1, .int .i64 G, .slice A2 0 c2, .int .i64 nw1, .int .i64 nw1, .int .i64 (rp + 1)], .agg #[.bool false, .bool false, .int .i64 K, .int .i64 H, .int .i64 Q, .slice a N cd], .bool true])) ∧ Below w.heap.size w w' := by
  have HQ := Lib.hid hQ
  have HG0 := Lib.hid hG
  clear hQ hG
  have mm1 : (if W < (n : Int) then W else (n : Int)) = M := by split <;> omega
  have tn1 : ((n : Int) == 0) = false := by simpa using hn
  have tn2 : decide (n = 0) = false := by simpa using hn
  have ts1 : ((1 : Int) != 1) = false := rfl
  obtain ⟨S, hS⟩ : ∃ S, S = tm + T := ⟨_, rfl⟩
  rw [← hS] at ht
  have s1 : tm + T = S := hS.symm
  have s2 : wrap64 (tm + T) = S := by rw [wr64 (by omega) (by omega)]; exact hS.symm
  have s2c : wrap64 S = S := wr64 (by omega) (by omega)
  have s2d : IntKind.i64.wrap S = S := by rw [IntKind.wrap_i64]; omega
  have d1 : decide (M ≤ fl) = true := by simpa using hf
  have d2 : decide (nw1 < S) = false := by simp; omega
  have d3 : decide (R ≤ rp) = false := by simp; omega
  have i1 : (0 : Int) < (n : Int) := by omega
  have i2 : 0 < n := by omega
  have s4 : wrap64 ac = ac := wr64 (by omega) (by omega)
  have s4d : IntKind.i64.wrap ac = ac := by rw [IntKind.wrap_i64]; omega
  obtain ⟨P1, hP1⟩ : ∃ P1, P1 = rp + 1 := ⟨_, rfl⟩
  rw [← hP1]
  have s7 : rp + 1 = P1 := hP1.symm
  have s8 : wrap64 P1 = P1 := wr64 (by omega) (by omega)
  have HMM := Lib.hid (And.intro hM mm1)
  clear hM mm1
  have hG := HG0.out
  have s6 : (if fr < 1 then (1 : Int) else fr) = G := by rw [if_max_f]; exact hG
  have hQ := HQ.out
  have s3 : ac.tmod 256 = Q := by rw [Int.tmod_eq_emod_of_nonneg a0]; exact hQ
  obtain ⟨hM, mm1⟩ := HMM.out
  have HA := Lib.hid (And.intro s3 (And.intro (And.intro s4 s4d) hQ))
  have HG := Lib.hid (And.intro s6 hG)
  clear hS hP1 hf hn ht hr t0 t1 t2 t3 p0 p1 a0 a1 s3 s4 s4d hQ s6 hG
  obtain ⟨w3, hw3⟩ : ∃ w3, w3 = ((w.alloc (.cells #[.int .i64 K, .int .i64 H, .int .i64 W, .int .i64 T, .int .i64 R, .int .i64 1, .slice (some ⟨b, off, none⟩) n c, .int .i64 ac, .int .i64 fl, .int .i64 fr, .slice A2 0 c2, .int .i64 nw, .int .i64 tm, .int .i64 rp] 31)).alloc (.cells #[.int .i64 0, .int .i64 0, .int .i64 0, .int .i64 0, .int .i64 0, .int .i64 0, .slice none 0 0, .int .i64 0, .int .i64 0, .int .i64 0, .slice none 0 0, .int .i64 0, .int .i64 0, .int .i64 0] 31)).alloc (.cells #[.bool false, .bool false, .int .i64 0, .int .i64 0, .int .i64 0, .slice none 0 0] 43) := ⟨_, rfl⟩
  have b3 : Below w.heap.size w w3 := by rw [hw3]; exact ((bel_new _ _).alloc (by simp) _).alloc (by simp; omega) _
  have pr3 : Cel w3 w.heap.size 31 #[.int .i64 K, .int .i64 H, .int .i64 W, .int .i64 T, .int .i64 R, .int .i64 1, .slice (some ⟨b, off, none⟩) n c, .int .i64 ac, .int .i64 fl, .int .i64 fr, .slice A2 0 c2, .int .i64 nw, .int .i64 tm, .int .i64 rp] := by rw [hw3]; exact Cel.later (Cel.later (Cel_at rfl) (bel_new _ _)) (bel_new _ _)
  have pz3 : Cel w3 (w.heap.size + 1) 31 #[.int .i64 0, .int .i64 0, .int .i64 0, .int .i64 0, .int .i64 0, .int .i64 0, .slice none 0 0, .int .i64 0, .int .i64 0, .int .i64 0, .slice none 0 0, .int .i64 0, .int .i64 0, .int .i64 0] := by rw [hw3]; exact Cel.later (Cel_at (by simp)) (bel_new _ _)
  have pq3 : Cel w3 (w.heap.size + 1 + 1) 43 #[.bool false, .bool false, .int .i64 0, .int .i64 0, .int .i64 0, .slice none 0 0] := by rw [hw3]; exact Cel_at (by simp)
  have xa := xat_any m K H W T R 1 (some ⟨b, off, none⟩) n c ac fl fr A2 0 c2 nw tm rp w3 hN
  have HP := Lib.hid (And.intro pr3 (And.intro pz3 pq3))
  have HB := Lib.hid b3
  clear pr3 pz3 pq3 b3 hN
  go_enter Try.func15, Try.ntmps15
  go_wp2_with fail
  rw [← hw3]
  clear hw3
  refine xa.mono ?_
  rintro e w4 ⟨rfl, k4⟩
  clear xa
  have pr4 := Cel.later HP.out.1 k4
  have pz4 := Cel.later HP.out.2.1 k4
  have pq4 := Cel.later HP.out.2.2 k4
  have b4 := HB.out.trans (k4.mono HB.out.size)
  obtain ⟨W5, hW5⟩ : ∃ W5, W5 = put14 w4 w.heap.size (.int .i64 K) (.int .i64 H) (.int .i64 W) (.int .i64 T) (.int .i64 R) (.int .i64 1) (.slice (some ⟨b, off, none⟩) n c) (.int .i64 ac) (.int .i64 fl) (.int .i64 fr) (.slice A2 0 c2) (.int .i64 nw1) (.int .i64 tm) (.int .i64 rp) := ⟨_, rfl⟩
  have k5 : Only [w.heap.size] w4 W5 := by rw [hW5]; exact put14_only _ _ _ _ _ _ _ _ _ _ _ _ _ _ _ _
  have pr5 : Cel W5 w.heap.size 31 #[.int .i64 K, .int .i64 H, .int .i64 W, .int .i64 T, .int .i64 R, .int .i64 1, .slice (some ⟨b, off, none⟩) n c, .int .i64 ac, .int .i64 fl, .int .i64 fr, .slice A2 0 c2, .int .i64 nw1, .int .i64 tm, .int .i64 rp] := by rw [hW5]; exact put14_cel pr4 _ _ _ _ _ _ _ _ _ _ _ _ _ _
  have pz5 := pz4.only k5 (by simp)
  have pq5 := pq4.only k5 (by simp; omega)
  have b5 := b4.trans (k5.below b4.size (by simp))
  unfold put14 at hW5
  have a0 := pr4.cell 0
  have a1 := pr4.cell 1
  have a2 := pr4.cell 2
  have a3 := pr4.cell 3
  have a4 := pr4.cell 4
  have a5 := pr4.cell 5
  have a6 := pr4.cell 6
  have a7 := pr4.cell 7
  have a8 := pr4.cell 8
  have a9 := pr4.cell 9
  have a10 := pr4.cell 10
  have a11 := pr4.cell 11
  have a12 := pr4.cell 12
  have a13 := pr4.cell 13
  simp at a0 a1 a2 a3 a4 a5 a6 a7 a8 a9 a10 a11 a12 a13
  have ya0 := pr4.free 0
  have ya1 := pr4.free 1
  have ya2 := pr4.free 2
  have ya3 := pr4.free 3
  have ya4 := pr4.free 4
  have ya5 := pr4.free 5
  have ya6 := pr4.free 6
  have ya7 := pr4.free 7
  have ya8 := pr4.free 8
  have ya9 := pr4.free 9
  have ya10 := pr4.free 10
  have ya11 := pr4.free 11
  have ya12 := pr4.free 12
  have ya13 := pr4.free 13
  clear k4 k5 pz4 pq4 b4 pr4
  go_upto_region 2 with fail
  rw [← hW5]
  clear hW5 a0 ya0 a1 ya1 a2 ya2 a3 ya3 a4 ya4 a5 ya5 a6 ya6 a7 ya7 a8 ya8 a9 ya9 a10 ya10 a11 ya11 a12 ya12 a13 ya13
  have r0 := pr5.cell 0
  have r1 := pr5.cell 1
  have r2 := pr5.cell 2
  have r3 := pr5.cell 3
  have r4 := pr5.cell 4
  have r5 := pr5.cell 5
  have r6 := pr5.cell 6
  have r7 := pr5.cell 7
  have r8 := pr5.cell 8
  have r9 := pr5.cell 9
  have r10 := pr5.cell 10
  have r11 := pr5.cell 11
  have r12 := pr5.cell 12
  have r13 := pr5.cell 13
  simp at r0 r1 r2 r3 r4 r5 r6 r7 r8 r9 r10 r11 r12 r13
  have yr0 := pr5.free 0
  have yr1 := pr5.free 1
  have yr2 := pr5.free 2
  have yr3 := pr5.free 3
  have yr4 := pr5.free 4
  have yr5 := pr5.free 5
  have yr6 := pr5.free 6
  have yr7 := pr5.free 7
  have yr8 := pr5.free 8
  have yr9 := pr5.free 9
  have yr10 := pr5.free 10
  have yr11 := pr5.free 11
  have yr12 := pr5.free 12
  have yr13 := pr5.free 13
  have z0 := pz5.cell 0
  have z1 := pz5.cell 1
  have z2 := pz5.cell 2
  have z3 := pz5.cell 3
  have z4 := pz5.cell 4
  have z5 := pz5.cell 5
  have z6 := pz5.cell 6
  have z7 := pz5.cell 7
  have z8 := pz5.cell 8
  have z9 := pz5.cell 9
  have z10 := pz5.cell 10
  have z11 := pz5.cell 11
  have z12 := pz5.cell 12
  have z13 := pz5.cell 13
  simp at z0 z1 z2 z3 z4 z5 z6 z7 z8 z9 z10 z11 z12 z13
  have yz0 := pz5.free 0
  have yz1 := pz5.free 1
  have yz2 := pz5.free 2
  have yz3 := pz5.free 3
  have yz4 := pz5.free 4
  have yz5 := pz5.free 5
  have yz6 := pz5.free 6
  have yz7 := pz5.free 7
  have yz8 := pz5.free 8
  have yz9 := pz5.free 9
  have yz10 := pz5.free 10
  have yz11 := pz5.free 11
  have yz12 := pz5.free 12
  have yz13 := pz5.free 13
  have q0 := pq5.cell 0
  have q1 := pq5.cell 1
  have q2 := pq5.cell 2
  have q3 := pq5.cell 3
  have q4 := pq5.cell 4
  have q5 := pq5.cell 5
  simp at q0 q1 q2 q3 q4 q5
  have yq0 := pq5.free 0
  have yq1 := pq5.free 1
  have yq2 := pq5.free 2
  have yq3 := pq5.free 3
  have yq4 := pq5.free 4
  have yq5 := pq5.free 5
  obtain ⟨W5b, hW5b⟩ : ∃ W5b, W5b = (W5.setCell ⟨w.heap.size, 13, none⟩ (.int .i64 P1)).setCell ⟨w.heap.size, 8, none⟩ (.int .i64 0) := ⟨_, rfl⟩
  have k5b : Only [w.heap.size] W5 W5b := by rw [hW5b]; exact only_put (put_only _ _ 13 _) 8 _
  have pr5b : Cel W5b w.heap.size 31 #[.int .i64 K, .int .i64 H, .int .i64 W, .int .i64 T, .int .i64 R, .int .i64 1, .slice (some ⟨b, off, none⟩) n c, .int .i64 ac, .int .i64 0, .int .i64 fr, .slice A2 0 c2, .int .i64 nw1, .int .i64 tm, .int .i64 P1] := by rw [hW5b]; exact (pr5.put 13 _).put 8 _
  have pz5b := pz5.only k5b (by simp)
  have pq5b := pq5.only k5b (by simp; omega)
  have b5b := b5.trans (k5b.below b5.size (by simp))
  have hcell := (b5b.cell (p := ⟨b, off, none⟩) hlt).trans hcell
  go_upto_region 16 with fail
  rw [← hW5b]
  clear r0 z0 yz0 r1 z1 yz1 r2 z2 yz2 r3 z3 yz3 r4 z4 yz4 r5 z5 yz5 r6 z6 yz6 r7 z7 yz7 r8 z8 yz8 r9 z9 yz9 r10 z10 yz10 r11 z11 yz11 r12 z12 yz12 r13 z13 yz13 q0 yq0 q1 yq1 q2 yq2 q3 yq3 q4 yq4 q5 yq5
  clear yr0 yr1 yr2 yr3 yr4 yr5 yr6 yr7 yr8 yr9 yr10 yr11 yr12 yr13
  clear hW5b k5b b5 pr5 pz5 pq5
  have pr5 := pr5b
  have pz5 := pz5b
  have pq5 := pq5b
  have b5 := b5b
  clear pr5b pz5b pq5b b5b
  obtain ⟨s3, ⟨s4, s4d⟩, hQ⟩ := HA.out
  have r0 := pr5.cell 0
  have r1 := pr5.cell 1
  have r2 := pr5.cell 2
  have r3 := pr5.cell 3
  have r4 := pr5.cell 4
  have r5 := pr5.cell 5
  have r6 := pr5.cell 6
  have r7 := pr5.cell 7
  have r8 := pr5.cell 8
  have r9 := pr5.cell 9
  have r10 := pr5.cell 10
  have r11 := pr5.cell 11
  have r12 := pr5.cell 12
  have r13 := pr5.cell 13
  simp at r0 r1 r2 r3 r4 r5 r6 r7 r8 r9 r10 r11 r12 r13
  have yr0 := pr5.free 0
  have yr1 := pr5.free 1
  have yr2 := pr5.free 2
  have yr3 := pr5.free 3
  have yr4 := pr5.free 4
  have yr5 := pr5.free 5
  have yr6 := pr5.free 6
  have yr7 := pr5.free 7
  have yr8 := pr5.free 8
  have yr9 := pr5.free 9
  have yr10 := pr5.free 10
  have yr11 := pr5.free 11
  have yr12 := pr5.free 12
  have yr13 := pr5.free 13
  have z0 := pz5.cell 0
  have z1 := pz5.cell 1
  have z2 := pz5.cell 2
  have z3 := pz5.cell 3
  have z4 := pz5.cell 4
  have z5 := pz5.cell 5
  have z6 := pz5.cell 6
  have z7 := pz5.cell 7
  have z8 := pz5.cell 8
  have z9 := pz5.cell 9
  have z10 := pz5.cell 10
  have z11 := pz5.cell 11
  have z12 := pz5.cell 12
  have z13 := pz5.cell 13
  simp at z0 z1 z2 z3 z4 z5 z6 z7 z8 z9 z10 z11 z12 z13
  have yz0 := pz5.free 0
  have yz1 := pz5.free 1
  have yz2 := pz5.free 2
  have yz3 := pz5.free 3
  have yz4 := pz5.free 4
  have yz5 := pz5.free 5
  have yz6 := pz5.free 6
  have yz7 := pz5.free 7
  have yz8 := pz5.free 8
  have yz9 := pz5.free 9
  have yz10 := pz5.free 10
  have yz11 := pz5.free 11
  have yz12 := pz5.free 12
  have yz13 := pz5.free 13
  have q0 := pq5.cell 0
  have q1 := pq5.cell 1
  have q2 := pq5.cell 2
  have q3 := pq5.cell 3
  have q4 := pq5.cell 4
  have q5 := pq5.cell 5
  simp at q0 q1 q2 q3 q4 q5
  have yq0 := pq5.free 0
  have yq1 := pq5.free 1
  have yq2 := pq5.free 2
  have yq3 := pq5.free 3
  have yq4 := pq5.free 4
  have yq5 := pq5.free 5
  have hLb : b < W5b.heap.size := Nat.lt_of_lt_of_le hlt b5.size
  have hLr : w.heap.size < W5b.heap.size := pr5.lt
  have hS5 : ∀ W, Below W5b.heap.size W5b W → (fun W => W.cell? ⟨w.heap.size, 0, none⟩ = some (.int .i64 K) ∧ W.cell? ⟨w.heap.size, 1, none⟩ = some (.int .i64 H) ∧ W.cell? ⟨w.heap.size, 6, none⟩ = some (.slice (some ⟨b, off, none⟩) n c) ∧ W.cell? ⟨w.heap.size, 7, none⟩ = some (.int .i64 ac) ∧ W.cell? ⟨w.heap.size, 8, none⟩ = some (.int .i64 0) ∧ W.cell? ⟨b, off, none⟩ = some (.slice a N cd)) W := fun W k => ⟨(k.cell (p := ⟨w.heap.size, 0, none⟩) hLr).trans r0, (k.cell (p := ⟨w.heap.size, 1, none⟩) hLr).trans r1, (k.cell (p := ⟨w.heap.size, 6, none⟩) hLr).trans r6, (k.cell (p := ⟨w.heap.size, 7, none⟩) hLr).trans r7, (k.cell (p := ⟨w.heap.size, 8, none⟩) hLr).trans r8, (k.cell (p := ⟨b, off, none⟩) hLb).trans hcell⟩
  have kD : Below W5b.heap.size W5b W5b.drew := drewN_below _ 1
  refine wp_region_held_drew (S := fun W => W.cell? ⟨w.heap.size, 0, none⟩ = some (.int .i64 K) ∧ W.cell? ⟨w.heap.size, 1, none⟩ = some (.int .i64 H) ∧ W.cell? ⟨w.heap.size, 6, none⟩ = some (.slice (some ⟨b, off, none⟩) n c) ∧ W.cell? ⟨w.heap.size, 7, none⟩ = some (.int .i64 ac) ∧ W.cell? ⟨w.heap.size, 8, none⟩ = some (.int .i64 0) ∧ W.cell? ⟨b, off, none⟩ = some (.slice a N cd)) (by kernel_rfl) (hS5 _ kD) (fun hHeld => ?_)
  refine wpAnyH_here 0 (v := ?_) rfl (by kernel_rfl) (by kernel_rfl) (by kernel_rfl) (fun _ _ _ h => h) (Or.inl ⟨by rfl, ?_⟩) hHeld ?_
  rotate_left
  · intro w hSw; (try dsimp only at hSw); go_simp; all_goals (with_reducible rfl)
  try simp only [Act.put, List.setIfInBounds_toArray, List.set_cons_zero, List.set_cons_succ]
  refine wpAnyH_here 1 (v := ?_) rfl (by kernel_rfl) (by kernel_rfl) (by kernel_rfl) (fun _ _ _ h => h) (Or.inl ⟨by rfl, ?_⟩) hHeld ?_
  rotate_left
  · intro w hSw; (try dsimp only at hSw); go_simp; all_goals (with_reducible rfl)
  try simp only [Act.put, List.setIfInBounds_toArray, List.set_cons_zero, List.set_cons_succ]
  refine wpAnyH_here 2 (v := ?_) rfl (by kernel_rfl) (by kernel_rfl) (by kernel_rfl) (fun _ _ _ h => h) (Or.inl ⟨by rfl, ?_⟩) hHeld ?_
  rotate_left
  · intro w hSw; (try dsimp only at hSw); go_simp; all_goals (with_reducible rfl)
  try simp only [Act.put, List.setIfInBounds_toArray, List.set_cons_zero, List.set_cons_succ]
  refine wpAnyH_here 3 (v := ?_) rfl (by kernel_rfl) (by kernel_rfl) (by kernel_rfl) (fun _ _ _ h => h) (Or.inl ⟨by rfl, ?_⟩) hHeld ?_
  rotate_left
  · intro w hSw; (try dsimp only at hSw); go_simp; all_goals (with_reducible rfl)
  try simp only [Act.put, List.setIfInBounds_toArray, List.set_cons_zero, List.set_cons_succ]
  refine wpAnyH_here 4 (v := ?_) rfl (by kernel_rfl) (by kernel_rfl) (by kernel_rfl) (fun _ _ _ h => h) (Or.inl ⟨by rfl, ?_⟩) hHeld ?_
  rotate_left
  · intro w hSw; (try dsimp only at hSw); go_simp; all_goals (with_reducible rfl)
  try simp only [Act.put, List.setIfInBounds_toArray, List.set_cons_zero, List.set_cons_succ]
  refine wpAnyH_here 5 (v := ?_) rfl (by kernel_rfl) (by kernel_rfl) (by kernel_rfl) (fun _ _ _ h => h) (Or.inl ⟨by rfl, ?_⟩) hHeld ?_
  rotate_left
  · intro w hSw; (try dsimp only at hSw); go_simp; all_goals (with_reducible rfl)
  try simp only [Act.put, List.setIfInBounds_toArray, List.set_cons_zero, List.set_cons_succ]
  refine wpAnyH_here 6 (v := ?_) rfl (by kernel_rfl) (by kernel_rfl) (by kernel_rfl) (fun _ _ _ h => h) (Or.inl ⟨by rfl, ?_⟩) hHeld ?_
  rotate_left
  · intro w hSw; (try dsimp only at hSw); go_simp; all_goals (with_reducible rfl)
  try simp only [Act.put, List.setIfInBounds_toArray, List.set_cons_zero, List.set_cons_succ]
  refine wpAnyH_here 7 (v := ?_) rfl (by kernel_rfl) (by kernel_rfl) (by kernel_rfl) (fun _ _ _ h => h) (Or.inl ⟨by rfl, ?_⟩) hHeld ?_
  rotate_left
  · intro w hSw; (try dsimp only at hSw); go_simp; all_goals (with_reducible rfl)
  try simp only [Act.put, List.setIfInBounds_toArray, List.set_cons_zero, List.set_cons_succ]
  refine wpAnyH_here 8 (v := ?_) rfl (by kernel_rfl) (by kernel_rfl) (by kernel_rfl) (fun _ _ _ h => h) (Or.inl ⟨by rfl, ?_⟩) hHeld ?_
  rotate_left
  · intro w hSw; (try dsimp only at hSw); go_simp; all_goals (with_reducible rfl)
  try simp only [Act.put, List.setIfInBounds_toArray, List.set_cons_zero, List.set_cons_succ]
  refine wpAnyH_here 9 (v := ?_) rfl (by kernel_rfl) (by kernel_rfl) (by kernel_rfl) (fun _ _ _ h => h) (Or.inl ⟨by rfl, ?_⟩) hHeld ?_
  rotate_left
  · intro w hSw; (try dsimp only at hSw); go_simp; all_goals (with_reducible rfl)
  try simp only [Act.put, List.setIfInBounds_toArray, List.set_cons_zero, List.set_cons_succ]
  refine wpAnyH_here 10 (v := ?_) rfl (by kernel_rfl) (by kernel_rfl) (by kernel_rfl) (fun _ _ _ h => h) (Or.inl ⟨by rfl, ?_⟩) hHeld ?_
  rotate_left
  · intro w hSw; (try dsimp only at hSw); go_simp; all_goals (with_reducible rfl)
  try simp only [Act.put, List.setIfInBounds_toArray, List.set_cons_zero, List.set_cons_succ]
  refine wpAnyH_here 11 (v := ?_) rfl (by kernel_rfl) (by kernel_rfl) (by kernel_rfl) (fun _ _ _ h => h) (Or.inl ⟨by rfl, ?_⟩) hHeld ?_
  rotate_left
  · intro w hSw; (try dsimp only at hSw); go_simp; all_goals (with_reducible rfl)
  try simp only [Act.put, List.setIfInBounds_toArray, List.set_cons_zero, List.set_cons_succ]
  refine wpAnyH_here 12 (v := ?_) rfl (by kernel_rfl) (by kernel_rfl) (by kernel_rfl) (fun _ _ _ h => h) (Or.inl ⟨by rfl, ?_⟩) hHeld ?_
  rotate_left
  · intro w hSw; (try dsimp only at hSw); go_simp; all_goals (with_reducible rfl)
  try simp only [Act.put, List.setIfInBounds_toArray, List.set_cons_zero, List.set_cons_succ]
  refine wpAnyH_here 13 (v := ?_) rfl (by kernel_rfl) (by kernel_rfl) (by kernel_rfl) (fun _ _ _ h => h) (Or.inl ⟨by rfl, ?_⟩) hHeld ?_
  rotate_left
  · intro w hSw; (try dsimp only at hSw); go_simp; all_goals (with_reducible rfl)
  try simp only [Act.put, List.setIfInBounds_toArray, List.set_cons_zero, List.set_cons_succ]
  refine wpAnyH_here 14 (v := ?_) rfl (by kernel_rfl) (by kernel_rfl) (by kernel_rfl) (fun _ _ _ h => h) (Or.inl ⟨by rfl, ?_⟩) hHeld ?_
  rotate_left
  · intro w hSw; (try dsimp only at hSw); go_simp; all_goals (with_reducible rfl)
  try simp only [Act.put, List.setIfInBounds_toArray, List.set_cons_zero, List.set_cons_succ]
  refine wpAnyH_here 15 (v := ?_) rfl (by kernel_rfl) (by kernel_rfl) (by kernel_rfl) (fun _ _ _ h => h) (Or.inl ⟨by rfl, ?_⟩) hHeld ?_
  rotate_left
  · intro w hSw; (try dsimp only at hSw); go_simp; all_goals (with_reducible rfl)
  try simp only [Act.put, List.setIfInBounds_toArray, List.set_cons_zero, List.set_cons_succ]
  refine wpAnyH_here 16 (v := ?_) rfl (by kernel_rfl) (by kernel_rfl) (by kernel_rfl) (fun _ _ _ h => h) (Or.inl ⟨by rfl, ?_⟩) hHeld ?_
  rotate_left
  · intro w hSw; (try dsimp only at hSw); go_simp; all_goals (with_reducible rfl)
  try simp only [Act.put, List.setIfInBounds_toArray, List.set_cons_zero, List.set_cons_succ]
  obtain ⟨WD, hWD⟩ : ∃ WD, WD = W5b.drew := ⟨_, rfl⟩
  rw [← hWD] at kD hHeld ⊢
  clear hWD
  refine wpAnyH_alone 17 rfl (by kernel_rfl) (fun K_ hK => ?_)
  go_simp
  obtain ⟨F, hF⟩ : ∃ F, F = WD.heap.size := ⟨_, rfl⟩
  have y8 := Cel.new WD 43 #[.bool false, .bool false, .int .i64 0, .int .i64 0, .int .i64 0, .slice none 0 0]
  have k8 := kD.trans ((bel_new WD (.cells #[.bool false, .bool false, .int .i64 0, .int .i64 0, .int .i64 0, .slice none 0 0] 43)).mono kD.size)
  obtain ⟨W8, hW8⟩ : ∃ W8, W8 = WD.alloc (.cells #[.bool false, .bool false, .int .i64 0, .int .i64 0, .int .i64 0, .slice none 0 0] 43) := ⟨_, rfl⟩
  have hFlo : W5b.heap.size ≤ F := by rw [hF]; exact kD.size
  rw [← hW8] at y8 k8 ⊢
  rw [← hF] at y8 ⊢
  clear hW8 hF
  refine hK.out _ _ (hS5 _ k8) (fun hHeld => ?_)
  clear hK K_
  try simp only [Act.put, List.setIfInBounds_toArray, List.set_cons_zero, List.set_cons_succ]
  refine wpAnyH_alone 18 rfl (by kernel_rfl) (fun K_ hK => ?_)
  have fc0 := y8.cell 0
  have fc1 := y8.cell 1
  have fc2 := y8.cell 2
  have fc3 := y8.cell 3
  have fc4 := y8.cell 4
  have fc5 := y8.cell 5
  simp at fc0 fc1 fc2 fc3 fc4 fc5
  have ff0 := y8.free 0
  have ff1 := y8.free 1
  have ff2 := y8.free 2
  have ff3 := y8.free 3
  have ff4 := y8.free 4
  have ff5 := y8.free 5
  have p9 := put6_only W8 F (.bool false) (.bool false) (.int .i64 K) (.int .i64 H) (.int .i64 Q) (.slice a N cd)
  have y9 := put6_cel y8 (.bool false) (.bool false) (.int .i64 K) (.int .i64 H) (.int .i64 Q) (.slice a N cd)
  have k9 := k8.trans (p9.below k8.size (fun x hx => by obtain rfl := List.mem_singleton.1 hx; exact hFlo))
  unfold put6 at y9 k9
  have H9 := Lib.hid (And.intro y9 (And.intro k9 (hS5 _ k9)))
  clear y9 k9 p9 y8 k8 hS5 hHeld
  go_simp
  refine hK.out _ _ H9.out.2.2 (fun hHeld => ?_)
  clear hK K_
  try simp only [Act.put, List.setIfInBounds_toArray, List.set_cons_zero, List.set_cons_succ]
  refine wpAnyH_done (by kernel_rfl) ?_ _
  obtain ⟨W6, hW6⟩ : ∃ W6, W6 = put6 W8 F (.bool false) (.bool false) (.int .i64 K) (.int .i64 H) (.int .i64 Q) (.slice a N cd) := ⟨_, rfl⟩
  unfold put6 at hW6
  rw [← hW6] at H9 ⊢
  obtain ⟨y9, k9, _⟩ := H9.out
  clear hW6 hHeld H9 fc0 ff0 fc1 ff1 fc2 ff2 fc3 ff3 fc4 ff4 fc5 ff5 kD hcell
  clear s3 s4 s4d hQ
  obtain ⟨s6, hG⟩ := HG.out
  have pr6 := Cel.later pr5 k9
  have pz6 := Cel.later pz5 k9
  have pq6 := Cel.later pq5 k9
  have pf6 := y9
  have b6 := b5.trans (k9.mono b5.size)
  have HLT := Lib.hid pq5.lt
  have HLF := Lib.hid hFlo
  clear r0 z0 yz0 r1 z1 yz1 r2 z2 yz2 r3 z3 yz3 r4 z4 yz4 r5 z5 yz5 r6 z6 yz6 r7 z7 yz7 r8 z8 yz8 r9 z9 yz9 r10 z10 yz10 r11 z11 yz11 r12 z12 yz12 r13 z13 yz13 q0 yq0 q1 yq1 q2 yq2 q3 yq3 q4 yq4 q5 yq5
  clear yr0 yr1 yr2 yr3 yr4 yr5 yr6 yr7 yr8 yr9 yr10 yr11 yr12 yr13
  clear y9 k9 b5 pr5 pz5 pq5 hFlo hLb hLr
  have hFne : F ≠ w.heap.size := fun e => by have := HLT.out; have := HLF.out; omega
  have hF1 : F ≠ w.heap.size + 1 := fun e => by have := HLT.out; have := HLF.out; omega
  have hF2 : F ≠ w.heap.size + 1 + 1 := fun e => by have := HLT.out; have := HLF.out; omega
  have hG1 := hF1.symm
  have hG2 := hF2.symm
  have r0 := pr6.cell 0
  have r1 := pr6.cell 1
  have r2 := pr6.cell 2
  have r3 := pr6.cell 3
  have r4 := pr6.cell 4
  have r5 := pr6.cell 5
  have r6 := pr6.cell 6
  have r7 := pr6.cell 7
  have r8 := pr6.cell 8
  have r9 := pr6.cell 9
  have r10 := pr6.cell 10
  have r11 := pr6.cell 11
  have r12 := pr6.cell 12
  have r13 := pr6.cell 13
  simp at r0 r1 r2 r3 r4 r5 r6 r7 r8 r9 r10 r11 r12 r13
  have yr0 := pr6.free 0
  have yr1 := pr6.free 1
  have yr2 := pr6.free 2
  have yr3 := pr6.free 3
  have yr4 := pr6.free 4
  have yr5 := pr6.free 5
  have yr6 := pr6.free 6
  have yr7 := pr6.free 7
  have yr8 := pr6.free 8
  have yr9 := pr6.free 9
  have yr10 := pr6.free 10
  have yr11 := pr6.free 11
  have yr12 := pr6.free 12
  have yr13 := pr6.free 13
  obtain ⟨W7, hW7⟩ : ∃ W7, W7 = ((W6.setCell ⟨w.heap.size, 8, none⟩ (.int .i64 1)).setCell ⟨w.heap.size, 9, none⟩ (.int .i64 G)).setCell ⟨w.heap.size, 12, none⟩ (.int .i64 nw1) := ⟨_, rfl⟩
  have k7 : Only [w.heap.size] W6 W7 := by rw [hW7]; exact only_put (only_put (put_only _ _ 8 _) 9 _) 12 _
  have pr7 : Cel W7 w.heap.size 31 #[.int .i64 K, .int .i64 H, .int .i64 W, .int .i64 T, .int .i64 R, .int .i64 1, .slice (some ⟨b, off, none⟩) n c, .int .i64 ac, .int .i64 1, .int .i64 G, .slice A2 0 c2, .int .i64 nw1, .int .i64 nw1, .int .i64 P1] := by rw [hW7]; exact ((pr6.put 8 _).put 9 _).put 12 _
  have pf7 := pf6.only k7 (by simpa using hFne)
  have pz7 := pz6.only k7 (by simp)
  have pq7 := pq6.only k7 (by simp; omega)
  have b7 := b6.trans (k7.below b6.size (by simp))
  have HFIN := Lib.hid (fin2 b7 b7.size pz7 pq7 (by omega) (by omega) (.int .i64 K) (.int .i64 H) (.int .i64 W) (.int .i64 T) (.int .i64 R) (.int .i64 1) (.slice (some ⟨b, off, none⟩) n c) (.int .i64 ac) (.int .i64 1) (.int .i64 G) (.slice A2 0 c2) (.int .i64 nw1) (.int .i64 nw1) (.int .i64 P1) (.bool false) (.bool false) (.int .i64 K) (.int .i64 H) (.int .i64 Q) (.slice a N cd))
  unfold put14 put6 at HFIN
  go_upto_region 20 with fail
  rw [← hW7]
  clear r0 yr0 r1 yr1 r2 yr2 r3 yr3 r4 yr4 r5 yr5 r6 yr6 r7 yr7 r8 yr8 r9 yr9 r10 yr10 r11 yr11 r12 yr12 r13 yr13 hW7
  have r0 := pr7.cell 0
  have r1 := pr7.cell 1
  have r2 := pr7.cell 2
  have r3 := pr7.cell 3
  have r4 := pr7.cell 4
  have r5 := pr7.cell 5
  have r6 := pr7.cell 6
  have r7 := pr7.cell 7
  have r8 := pr7.cell 8
  have r9 := pr7.cell 9
  have r10 := pr7.cell 10
  have r11 := pr7.cell 11
  have r12 := pr7.cell 12
  have r13 := pr7.cell 13
  simp at r0 r1 r2 r3 r4 r5 r6 r7 r8 r9 r10 r11 r12 r13
  have z0 := pz7.cell 0
  have z1 := pz7.cell 1
  have z2 := pz7.cell 2
  have z3 := pz7.cell 3
  have z4 := pz7.cell 4
  have z5 := pz7.cell 5
  have z6 := pz7.cell 6
  have z7 := pz7.cell 7
  have z8 := pz7.cell 8
  have z9 := pz7.cell 9
  have z10 := pz7.cell 10
  have z11 := pz7.cell 11
  have z12 := pz7.cell 12
  have z13 := pz7.cell 13
  simp at z0 z1 z2 z3 z4 z5 z6 z7 z8 z9 z10 z11 z12 z13
  have yz0 := pz7.free 0
  have yz1 := pz7.free 1
  have yz2 := pz7.free 2
  have yz3 := pz7.free 3
  have yz4 := pz7.free 4
  have yz5 := pz7.free 5
  have yz6 := pz7.free 6
  have yz7 := pz7.free 7
  have yz8 := pz7.free 8
  have yz9 := pz7.free 9
  have yz10 := pz7.free 10
  have yz11 := pz7.free 11
  have yz12 := pz7.free 12
  have yz13 := pz7.free 13
  have q0 := pq7.cell 0
  have q1 := pq7.cell 1
  have q2 := pq7.cell 2
  have q3 := pq7.cell 3
  have q4 := pq7.cell 4
  have q5 := pq7.cell 5
  simp at q0 q1 q2 q3 q4 q5
  have yq0 := pq7.free 0
  have yq1 := pq7.free 1
  have yq2 := pq7.free 2
  have yq3 := pq7.free 3
  have yq4 := pq7.free 4
  have yq5 := pq7.free 5
  have f0 := pf7.cell 0
  have f1 := pf7.cell 1
  have f2 := pf7.cell 2
  have f3 := pf7.cell 3
  have f4 := pf7.cell 4
  have f5 := pf7.cell 5
  simp at f0 f1 f2 f3 f4 f5
  clear k7 pr7 pz7 pq7 pf7 b7 b6 pr6 pz6 pq6 pf6
  go_region
  go_wp2
  exact bodyPost_ret (xnx_results rfl rfl rfl (HFIN.out.1.draws 1) (HFIN.out.2.1.draws 1)) rfl ⟨rfl, HFIN.out.2.2.trans ((drewN_below _ 1).mono HFIN.out.2.2.size)⟩

end Go.Proofs.Ytdpjjhbfhlmolaa.Fop

/-
  The reference of layer 17: Report without progress.
-/
namespace Go.Proofs.Ytdpjjhbfhlmolaa.Fop
open Go.RowKit
open Pac (bel_new Cel.later)
open Clc (Cw zvalid_any)

theorem xr_results {tmps : Array Value} {W : World} {g : Nat} {E : Int} {u0 u1 u2 u3 u4 u5 u6 u7 u8 u9 u10 u11 u12 u13 : Value} (h2 : tmps.getD 6 undef = .pointer (some ⟨g, 0, none⟩)) (h3 : tmps.getD 7 undef = .int .i64 E)
    (hC : Cel W g 31 #[u0, u1, u2, u3, u4, u5, u6, u7, u8, u9, u10, u11, u12, u13]) :
    (results Try.f18 tmps).run Try.prog W = .ok (.tuple #[.agg #[u0, u1, u2, u3, u4, u5, u6, u7, u8, u9, u10, u11, u12, u13], .int .i64 E]) W := by
  have c0 := hC.cell 0
  have c1 := hC.cell 1
  have c2 := hC.cell 2
  have c3 := hC.cell 3
  have c4 := hC.cell 4
  have c5 := hC.cell 5
  have c6 := hC.cell 6
  have c7 := hC.cell 7
  have c8 := hC.cell 8
  have c9 := hC.cell 9
  have c10 := hC.cell 10
  have c11 := hC.cell 11
  have c12 := hC.cell 12
  have c13 := hC.cell 13
  simp at c0 c1 c2 c3 c4 c5 c6 c7 c8 c9 c10 c11 c12 c13
  simp only [Array.getD_eq_getD_getElem?] at h2 h3
  simp [results, Try.results18, go_sem, h2, h3, c0, c1, c2, c3, c4, c5, c6, c7, c8, c9, c10, c11, c12, c13]
set_option maxRecDepth 100000 in
set_option maxHeartbeats 16000000 in
theorem xrep_form (m ch : Int) (lk wt rt : Bool) (bp nx : Int) (K H W T R st : Int) (A : Option Addr) (n c : Nat) (ac fl fr : Int) (A2 : Option Addr) (n2 c2 : Nat) (nw tm rp : Int) (w : World) {nw1 : Int} (hN : adn m nw = nw1) (hV : Cw.ok ⟨ch, lk, wt, rt, bp, nx⟩ = false) :
    Calls Try.prog 18 #[.agg #[.int .i64 K, .int .i64 H, .int .i64 W, .int .i64 T, .int .i64 R, .int .i64 st, .slice A n c, .int .i64 ac, .int .i64 fl, .int .i64 fr, .slice A2 n2 c2, .int .i64 nw, .int .i64 tm, .int .i64 rp], .agg #[.int .i64 ch, .bool lk, .bool wt, .bool rt, .int .i64 bp, .int .i64 nx], .int .i64 m] w fun e w' => (e = .returned (.tuple #[.agg #[.int .i64 K, .int .i64 H, .int .i64 W, .int .i64 T, .int .i64 R, .int .i64 st, .slice A n c, .int .i64 ac, .int .i64 fl, .int .i64 fr, .slice A2 n2 c2, .int .i64 nw1, .int .i64 tm, .int .i64 rp], .int .i64 1])) ∧ Below w.heap.size w w' := by
  obtain ⟨w3, hw3⟩ : ∃ w3, w3 = ((w.alloc (.cells #[.int .i64 K, .int .i64 H, .int .i64 W, .int .i64 T, .int .i64 R, .int .i64 st, .slice A n c, .int .i64 ac, .int .i64 fl, .int .i64 fr, .slice A2 n2 c2, .int .i64 nw, .int .i64 tm, .int .i64 rp] 31)).alloc (.cells #[.int .i64 ch, .bool lk, .bool wt, .bool rt, .int .i64 bp, .int .i64 nx] 35)).alloc (.cells #[.int .i64 0, .int .i64 0, .int .i64 0, .int .i64 0, .int .i64 0, .int .i64 0, .slice none 0 0, .int .i64 0, .int .i64 0, .int .i64 0, .slice none 0 0, .int .i64 0, .int .i64 0, .int .i64 0] 31) := ⟨_, rfl⟩
  have b3 : Below w.heap.size w w3 := by rw [hw3]; exact ((bel_new _ _).alloc (by simp) _).alloc (by simp; omega) _
  have pr3 : Cel w3 w.heap.size 31 #[.int .i64 K, .int .i64 H, .int .i64 W, .int .i64 T, .int .i64 R, .int .i64 st, .slice A n c, .int .i64 ac, .int .i64 fl, .int .i64 fr, .slice A2 n2 c2, .int .i64 nw, .int .i64 tm, .int .i64 rp] := by rw [hw3]; exact Cel.later (Cel.later (Cel_at rfl) (bel_new _ _)) (bel_new _ _)
  have pq3 : Cel w3 (w.heap.size + 1) 35 #[.int .i64 ch, .bool lk, .bool wt, .bool rt, .int .i64 bp, .int .i64 nx] := by rw [hw3]; exact Cel.later (Cel_at (by simp)) (bel_new _ _)
  have pz3 : Cel w3 (w.heap.size + 1 + 1) 31 #[.int .i64 0, .int .i64 0, .int .i64 0, .int .i64 0, .int .i64 0, .int .i64 0, .slice none 0 0, .int .i64 0, .int .i64 0, .int .i64 0, .slice none 0 0, .int .i64 0, .int .i64 0, .int .i64 0] := by rw [hw3]; exact Cel_at (by simp)
  have xa := xat_any m K H W T R st A n c ac fl fr A2 n2 c2 nw tm rp w3 hN
  have HP := Lib.hid (And.intro pr3 (And.intro pz3 pq3))
  have HB := Lib.hid b3
  clear pr3 pz3 pq3 b3 hN
  go_enter Try.func18, Try.ntmps18
  go_wp2_with fail
  rw [← hw3]
  clear hw3
  refine xa.mono ?_
  rintro e w4 ⟨rfl, k4⟩
  clear xa
  have pr4 := Cel.later HP.out.1 k4
  have pz4 := Cel.later HP.out.2.1 k4
  have pq4 := Cel.later HP.out.2.2 k4
  have b4 := HB.out.trans (k4.mono HB.out.size)
  obtain ⟨W5, hW5⟩ : ∃ W5, W5 = put14 w4 w.heap.size (.int .i64 K) (.int .i64 H) (.int .i64 W) (.int .i64 T) (.int .i64 R) (.int .i64 st) (.slice A n c) (.int .i64 ac) (.int .i64 fl) (.int .i64 fr) (.slice A2 n2 c2) (.int .i64 nw1) (.int .i64 tm) (.int .i64 rp) := ⟨_, rfl⟩
  have k5 : Only [w.heap.size] w4 W5 := by rw [hW5]; exact put14_only _ _ _ _ _ _ _ _ _ _ _ _ _ _ _ _
  have pr5 : Cel W5 w.heap.size 31 #[.int .i64 K, .int .i64 H, .int .i64 W, .int .i64 T, .int .i64 R, .int .i64 st, .slice A n c, .int .i64 ac, .int .i64 fl, .int .i64 fr, .slice A2 n2 c2, .int .i64 nw1, .int .i64 tm, .int .i64 rp] := by rw [hW5]; exact put14_cel pr4 _ _ _ _ _ _ _ _ _ _ _ _ _ _
  have pz5 := pz4.only k5 (by simp; omega)
  have pq5 := pq4.only k5 (by simp)
  have b5 := b4.trans (k5.below b4.size (by simp))
  unfold put14 at hW5
  have a0 := pr4.cell 0
  have a1 := pr4.cell 1
  have a2 := pr4.cell 2
  have a3 := pr4.cell 3
  have a4 := pr4.cell 4
  have a5 := pr4.cell 5
  have a6 := pr4.cell 6
  have a7 := pr4.cell 7
  have a8 := pr4.cell 8
  have a9 := pr4.cell 9
  have a10 := pr4.cell 10
  have a11 := pr4.cell 11
  have a12 := pr4.cell 12
  have a13 := pr4.cell 13
  simp at a0 a1 a2 a3 a4 a5 a6 a7 a8 a9 a10 a11 a12 a13
  have ya0 := pr4.free 0
  have ya1 := pr4.free 1
  have ya2 := pr4.free 2
  have ya3 := pr4.free 3
  have ya4 := pr4.free 4
  have ya5 := pr4.free 5
  have ya6 := pr4.free 6
  have ya7 := pr4.free 7
  have ya8 := pr4.free 8
  have ya9 := pr4.free 9
  have ya10 := pr4.free 10
  have ya11 := pr4.free 11
  have ya12 := pr4.free 12
  have ya13 := pr4.free 13
  clear k4 k5 pz4 pq4 b4 pr4
  go_upto_region 2 with fail
  rw [← hW5]
  clear hW5 a0 ya0 a1 ya1 a2 ya2 a3 ya3 a4 ya4 a5 ya5 a6 ya6 a7 ya7 a8 ya8 a9 ya9 a10 ya10 a11 ya11 a12 ya12 a13 ya13
  have q0 := pq5.cell 0
  have q1 := pq5.cell 1
  have q2 := pq5.cell 2
  have q3 := pq5.cell 3
  have q4 := pq5.cell 4
  have q5 := pq5.cell 5
  simp at q0 q1 q2 q3 q4 q5
  go_wp2_with fail
  refine (zvalid_any ch lk wt rt bp nx W5).mono ?_
  rintro e w6 ⟨rfl, k6⟩
  rw [hV]
  have pr6 := Cel.later pr5 k6
  have pz6 := Cel.later pz5 k6
  have pq6 := Cel.later pq5 k6
  have b6 := b5.trans (k6.mono b5.size)
  clear k6 pr5 pz5 pq5 b5 hV q0 q1 q2 q3 q4 q5
  have r0 := pr6.cell 0
  have r1 := pr6.cell 1
  have r2 := pr6.cell 2
  have r3 := pr6.cell 3
  have r4 := pr6.cell 4
  have r5 := pr6.cell 5
  have r6 := pr6.cell 6
  have r7 := pr6.cell 7
  have r8 := pr6.cell 8
  have r9 := pr6.cell 9
  have r10 := pr6.cell 10
  have r11 := pr6.cell 11
  have r12 := pr6.cell 12
  have r13 := pr6.cell 13
  simp at r0 r1 r2 r3 r4 r5 r6 r7 r8 r9 r10 r11 r12 r13
  have yr0 := pr6.free 0
  have yr1 := pr6.free 1
  have yr2 := pr6.free 2
  have yr3 := pr6.free 3
  have yr4 := pr6.free 4
  have yr5 := pr6.free 5
  have yr6 := pr6.free 6
  have yr7 := pr6.free 7
  have yr8 := pr6.free 8
  have yr9 := pr6.free 9
  have yr10 := pr6.free 10
  have yr11 := pr6.free 11
  have yr12 := pr6.free 12
  have yr13 := pr6.free 13
  have z0 := pz6.cell 0
  have z1 := pz6.cell 1
  have z2 := pz6.cell 2
  have z3 := pz6.cell 3
  have z4 := pz6.cell 4
  have z5 := pz6.cell 5
  have z6 := pz6.cell 6
  have z7 := pz6.cell 7
  have z8 := pz6.cell 8
  have z9 := pz6.cell 9
  have z10 := pz6.cell 10
  have z11 := pz6.cell 11
  have z12 := pz6.cell 12
  have z13 := pz6.cell 13
  simp at z0 z1 z2 z3 z4 z5 z6 z7 z8 z9 z10 z11 z12 z13
  have yz0 := pz6.free 0
  have yz1 := pz6.free 1
  have yz2 := pz6.free 2
  have yz3 := pz6.free 3
  have yz4 := pz6.free 4
  have yz5 := pz6.free 5
  have yz6 := pz6.free 6
  have yz7 := pz6.free 7
  have yz8 := pz6.free 8
  have yz9 := pz6.free 9
  have yz10 := pz6.free 10
  have yz11 := pz6.free 11
  have yz12 := pz6.free 12
  have yz13 := pz6.free 13
  have q0 := pq6.cell 0
  have q1 := pq6.cell 1
  have q2 := pq6.cell 2
  have q3 := pq6.cell 3
  have q4 := pq6.cell 4
  have q5 := pq6.cell 5
  simp at q0 q1 q2 q3 q4 q5
  have HFIN := Lib.hid (And.intro (put14_cel pz6 (.int .i64 K) (.int .i64 H) (.int .i64 W) (.int .i64 T) (.int .i64 R) (.int .i64 st) (.slice A n c) (.int .i64 ac) (.int .i64 fl) (.int .i64 fr) (.slice A2 n2 c2) (.int .i64 nw1) (.int .i64 tm) (.int .i64 rp)) (b6.trans ((put14_only w6 (w.heap.size + 1 + 1) (.int .i64 K) (.int .i64 H) (.int .i64 W) (.int .i64 T) (.int .i64 R) (.int .i64 st) (.slice A n c) (.int .i64 ac) (.int .i64 fl) (.int .i64 fr) (.slice A2 n2 c2) (.int .i64 nw1) (.int .i64 tm) (.int .i64 rp)).below b6.size (by simp; omega))))
  unfold put14 at HFIN
  clear pr6 pz6 pq6 b6
  go_wp2
  obtain ⟨fin_a, fin_b⟩ := HFIN.out
  clear HFIN
  exact bodyPost_ret (xr_results rfl rfl fin_a) rfl ⟨rfl, fin_b⟩

set_option maxRecDepth 100000 in
set_option maxHeartbeats 16000000 in
theorem xrep_chan (m ch : Int) (lk wt rt : Bool) (bp nx : Int) (K H W T R st : Int) (A : Option Addr) (n c : Nat) (ac fl fr : Int) (A2 : Option Addr) (n2 c2 : Nat) (nw tm rp : Int) (w : World) {nw1 : Int} (hN : adn m nw = nw1) (hV : Cw.ok ⟨ch, lk, wt, rt, bp, nx⟩ = true) (hc : ch ≠ H) :
    Calls Try.prog 18 #[.agg #[.int .i64 K, .int .i64 H, .int .i64 W, .int .i64 T, .int .i64 R, .int .i64 st, .slice A n c, .int .i64 ac, .int .i64 fl, .int .i64 fr, .slice A2 n2 c2, .int .i64 nw, .int .i64 tm, .int .i64 rp], .agg #[.int .i64 ch, .bool lk, .bool wt, .bool rt, .int .i64 bp, .int .i64 nx], .int .i64 m] w fun e w' => (e = .returned (.tuple #[.agg #[.int .i64 K, .int .i64 H, .int .i64 W, .int .i64 T, .int .i64 R, .int .i64 st, .slice A n c, .int .i64 ac, .int .i64 fl, .int .i64 fr, .slice A2 n2 c2, .int .i64 nw1, .int .i64 tm, .int .i64 rp], .int .i64 1])) ∧ Below w.heap.size w w' := by
  have t1 : (ch != H) = true := by simpa using hc
  clear hc
  obtain ⟨w3, hw3⟩ : ∃ w3, w3 = ((w.alloc (.cells #[.int .i64 K, .int .i64 H, .int .i64 W, .int .i64 T, .int .i64 R, .int .i64 st, .slice A n c, .int .i64 ac, .int .i64 fl, .int .i64 fr, .slice A2 n2 c2, .int .i64 nw, .int .i64 tm, .int .i64 rp] 31)).alloc (.cells #[.int .i64 ch, .bool lk, .bool wt, .bool rt, .int .i64 bp, .int .i64 nx] 35)).alloc (.cells #[.int .i64 0, .int .i64 0, .int .i64 0, .int .i64 0, .int .i64 0, .int .i64 0, .slice none 0 0, .int .i64 0, .int .i64 0, .int .i64 0, .slice none 0 0, .int .i64 0, .int .i64 0, .int .i64 0] 31) := ⟨_, rfl⟩
  have b3 : Below w.heap.size w w3 := by rw [hw3]; exact ((bel_new _ _).alloc (by simp) _).alloc (by simp; omega) _
  have pr3 : Cel w3 w.heap.size 31 #[.int .i64 K, .int .i64 H, .int .i64 W, .int .i64 T, .int .i64 R, .int .i64 st, .slice A n c, .int .i64 ac, .int .i64 fl, .int .i64 fr, .slice A2 n2 c2, .int .i64 nw, .int .i64 tm, .int .i64 rp] := by rw [hw3]; exact Cel.later (Cel.later (Cel_at rfl) (bel_new _ _)) (bel_new _ _)
  have pq3 : Cel w3 (w.heap.size + 1) 35 #[.int .i64 ch, .bool lk, .bool wt, .bool rt, .int .i64 bp, .int .i64 nx] := by rw [hw3]; exact Cel.later (Cel_at (by simp)) (bel_new _ _)
  have pz3 : Cel w3 (w.heap.size + 1 + 1) 31 #[.int .i64 0, .int .i64 0, .int .i64 0, .int .i64 0, .int .i64 0, .int .i64 0, .slice none 0 0, .int .i64 0, .int .i64 0, .int .i64 0, .slice none 0 0, .int .i64 0, .int .i64 0, .int .i64 0] := by rw [hw3]; exact Cel_at (by simp)
  have xa := xat_any m K H W T R st A n c ac fl fr A2 n2 c2 nw tm rp w3 hN
  have HP := Lib.hid (And.intro pr3 (And.intro pz3 pq3))
  have HB := Lib.hid b3
  clear pr3 pz3 pq3 b3 hN
  go_enter Try.func18, Try.ntmps18
  go_wp2_with fail
  rw [← hw3]
  clear hw3
  refine xa.mono ?_
  rintro e w4 ⟨rfl, k4⟩
  clear xa
  have pr4 := Cel.later HP.out.1 k4
  have pz4 := Cel.later HP.out.2.1 k4
  have pq4 := Cel.later HP.out.2.2 k4
  have b4 := HB.out.trans (k4.mono HB.out.size)
  obtain ⟨W5, hW5⟩ : ∃ W5, W5 = put14 w4 w.heap.size (.int .i64 K) (.int .i64 H) (.int .i64 W) (.int .i64 T) (.int .i64 R) (.int .i64 st) (.slice A n c) (.int .i64 ac) (.int .i64 fl) (.int .i64 fr) (.slice A2 n2 c2) (.int .i64 nw1) (.int .i64 tm) (.int .i64 rp) := ⟨_, rfl⟩
  have k5 : Only [w.heap.size] w4 W5 := by rw [hW5]; exact put14_only _ _ _ _ _ _ _ _ _ _ _ _ _ _ _ _
  have pr5 : Cel W5 w.heap.size 31 #[.int .i64 K, .int .i64 H, .int .i64 W, .int .i64 T, .int .i64 R, .int .i64 st, .slice A n c, .int .i64 ac, .int .i64 fl, .int .i64 fr, .slice A2 n2 c2, .int .i64 nw1, .int .i64 tm, .int .i64 rp] := by rw [hW5]; exact put14_cel pr4 _ _ _ _ _ _ _ _ _ _ _ _ _ _
  have pz5 := pz4.only k5 (by simp; omega)
  have pq5 := pq4.only k5 (by simp)
  have b5 := b4.trans (k5.below b4.size (by simp))
  unfold put14 at hW5
  have a0 := pr4.cell 0
  have a1 := pr4.cell 1
  have a2 := pr4.cell 2
  have a3 := pr4.cell 3
  have a4 := pr4.cell 4
  have a5 := pr4.cell 5
  have a6 := pr4.cell 6
  have a7 := pr4.cell 7
  have a8 := pr4.cell 8
  have a9 := pr4.cell 9
  have a10 := pr4.cell 10
  have a11 := pr4.cell 11
  have a12 := pr4.cell 12
  have a13 := pr4.cell 13
  simp at a0 a1 a2 a3 a4 a5 a6 a7 a8 a9 a10 a11 a12 a13
  have ya0 := pr4.free 0
  have ya1 := pr4.free 1
  have ya2 := pr4.free 2
  have ya3 := pr4.free 3
  have ya4 := pr4.free 4
  have ya5 := pr4.free 5
  have ya6 := pr4.free 6
  have ya7 := pr4.free 7
  have ya8 := pr4.free 8
  have ya9 := pr4.free 9
  have ya10 := pr4.free 10
  have ya11 := pr4.free 11
  have ya12 := pr4.free 12
  have ya13 := pr4.free 13
  clear k4 k5 pz4 pq4 b4 pr4
  go_upto_region 2 with fail
  rw [← hW5]
  clear hW5 a0 ya0 a1 ya1 a2 ya2 a3 ya3 a4 ya4 a5 ya5 a6 ya6 a7 ya7 a8 ya8 a9 ya9 a10 ya10 a11 ya11 a12 ya12 a13 ya13
  have q0 := pq5.cell 0
  have q1 := pq5.cell 1
  have q2 := pq5.cell 2
  have q3 := pq5.cell 3
  have q4 := pq5.cell 4
  have q5 := pq5.cell 5
  simp at q0 q1 q2 q3 q4 q5
  go_wp2_with fail
  refine (zvalid_any ch lk wt rt bp nx W5).mono ?_
  rintro e w6 ⟨rfl, k6⟩
  rw [hV]
  have pr6 := Cel.later pr5 k6
  have pz6 := Cel.later pz5 k6
  have pq6 := Cel.later pq5 k6
  have b6 := b5.trans (k6.mono b5.size)
  clear k6 pr5 pz5 pq5 b5 hV q0 q1 q2 q3 q4 q5
  have r0 := pr6.cell 0
  have r1 := pr6.cell 1
  have r2 := pr6.cell 2
  have r3 := pr6.cell 3
  have r4 := pr6.cell 4
  have r5 := pr6.cell 5
  have r6 := pr6.cell 6
  have r7 := pr6.cell 7
  have r8 := pr6.cell 8
  have r9 := pr6.cell 9
  have r10 := pr6.cell 10
  have r11 := pr6.cell 11
  have r12 := pr6.cell 12
  have r13 := pr6.cell 13
  simp at r0 r1 r2 r3 r4 r5 r6 r7 r8 r9 r10 r11 r12 r13
  have yr0 := pr6.free 0
  have yr1 := pr6.free 1
  have yr2 := pr6.free 2
  have yr3 := pr6.free 3
  have yr4 := pr6.free 4
  have yr5 := pr6.free 5
  have yr6 := pr6.free 6
  have yr7 := pr6.free 7
  have yr8 := pr6.free 8
  have yr9 := pr6.free 9
  have yr10 := pr6.free 10
  have yr11 := pr6.free 11
  have yr12 := pr6.free 12
  have yr13 := pr6.free 13
  have z0 := pz6.cell 0
  have z1 := pz6.cell 1
  have z2 := pz6.cell 2
  have z3 := pz6.cell 3
  have z4 := pz6.cell 4
  have z5 := pz6.cell 5
  have z6 := pz6.cell 6
  have z7 := pz6.cell 7
  have z8 := pz6.cell 8
  have z9 := pz6.cell 9
  have z10 := pz6.cell 10
  have z11 := pz6.cell 11
  have z12 := pz6.cell 12
  have z13 := pz6.cell 13
  simp at z0 z1 z2 z3 z4 z5 z6 z7 z8 z9 z10 z11 z12 z13
  have yz0 := pz6.free 0
  have yz1 := pz6.free 1
  have yz2 := pz6.free 2
  have yz3 := pz6.free 3
  have yz4 := pz6.free 4
  have yz5 := pz6.free 5
  have yz6 := pz6.free 6
  have yz7 := pz6.free 7
  have yz8 := pz6.free 8
  have yz9 := pz6.free 9
  have yz10 := pz6.free 10
  have yz11 := pz6.free 11
  have yz12 := pz6.free 12
  have yz13 := pz6.free 13
  have q0 := pq6.cell 0
  have q1 := pq6.cell 1
  have q2 := pq6.cell 2
  have q3 := pq6.cell 3
  have q4 := pq6.cell 4
  have q5 := pq6.cell 5
  simp at q0 q1 q2 q3 q4 q5
  have HFIN := Lib.hid (And.intro (put14_cel pz6 (.int .i64 K) (.int .i64 H) (.int .i64 W) (.int .i64 T) (.int .i64 R) (.int .i64 st) (.slice A n c) (.int .i64 ac) (.int .i64 fl) (.int .i64 fr) (.slice A2 n2 c2) (.int .i64 nw1) (.int .i64 tm) (.int .i64 rp)) (b6.trans ((put14_only w6 (w.heap.size + 1 + 1) (.int .i64 K) (.int .i64 H) (.int .i64 W) (.int .i64 T) (.int .i64 R) (.int .i64 st) (.slice A n c) (.int .i64 ac) (.int .i64 fl) (.int .i64 fr) (.slice A2 n2 c2) (.int .i64 nw1) (.int .i64 tm) (.int .i64 rp)).below b6.size (by simp; omega))))
  unfold put14 at HFIN
  clear pr6 pz6 pq6 b6
  go_wp2
  obtain ⟨fin_a, fin_b⟩ := HFIN.out
  clear HFIN
  exact bodyPost_ret (xr_results rfl rfl fin_a) rfl ⟨rfl, fin_b⟩

set_option maxRecDepth 100000 in
set_option maxHeartbeats 16000000 in
theorem xrep_lock (m ch : Int) (wt rt : Bool) (bp nx : Int) (K H W T R st : Int) (A : Option Addr) (n c : Nat) (ac fl fr : Int) (A2 : Option Addr) (n2 c2 : Nat) (nw tm rp : Int) (w : World) {nw1 : Int} (hN : adn m nw = nw1) (hc : ch = H) (hV : Cw.ok ⟨ch, true, wt, rt, bp, nx⟩ = true) :
    Calls Try.prog 18 #[.agg #[.int .i64 K, .int .i64 H, .int .i64 W, .int .i64 T, .int .i64 R, .int .i64 st, .slice A n c, .int .i64 ac, .int .i64 fl, .int .i64 fr, .slice A2 n2 c2, .int .i64 nw, .int .i64 tm, .int .i64 rp], .agg #[.int .i64 ch, .bool true, .bool wt, .bool rt, .int .i64 bp, .int .i64 nx], .int .i64 m] w fun e w' => (e = .returned (.tuple #[.agg #[.int .i64 K, .int .i64 H, .int .i64 W, .int .i64 T, .int .i64 R, .int .i64 3, .slice A n c, .int .i64 ac, .int .i64 fl, .int .i64 fr, .slice A2 n2 c2, .int .i64 nw1, .int .i64 tm, .int .i64 rp], .int .i64 14])) ∧ Below w.heap.size w w' := by
  have t1 : (ch != H) = false := by simpa using hc
  clear hc
  obtain ⟨w3, hw3⟩ : ∃ w3, w3 = ((w.alloc (.cells #[.int .i64 K, .int .i64 H, .int .i64 W, .int .i64 T, .int .i64 R, .int .i64 st, .slice A n c, .int .i64 ac, .int .i64 fl, .int .i64 fr, .slice A2 n2 c2, .int .i64 nw, .int .i64 tm, .int .i64 rp] 31)).alloc (.cells #[.int .i64 ch, .bool true, .bool wt, .bool rt, .int .i64 bp, .int .i64 nx] 35)).alloc (.cells #[.int .i64 0, .int .i64 0, .int .i64 0, .int .i64 0, .int .i64 0, .int .i64 0, .slice none 0 0, .int .i64 0, .int .i64 0, .int .i64 0, .slice none 0 0, .int .i64 0, .int .i64 0, .int .i64 0] 31) := ⟨_, rfl⟩
  have b3 : Below w.heap.size w w3 := by rw [hw3]; exact ((bel_new _ _).alloc (by simp) _).alloc (by simp; omega) _
  have pr3 : Cel w3 w.heap.size 31 #[.int .i64 K, .int .i64 H, .int .i64 W, .int .i64 T, .int .i64 R, .int .i64 st, .slice A n c, .int .i64 ac, .int .i64 fl, .int .i64 fr, .slice A2 n2 c2, .int .i64 nw, .int .i64 tm, .int .i64 rp] := by rw [hw3]; exact Cel.later (Cel.later (Cel_at rfl) (bel_new _ _)) (bel_new _ _)
  have pq3 : Cel w3 (w.heap.size + 1) 35 #[.int .i64 ch, .bool true, .bool wt, .bool rt, .int .i64 bp, .int .i64 nx] := by rw [hw3]; exact Cel.later (Cel_at (by simp)) (bel_new _ _)
  have pz3 : Cel w3 (w.heap.size + 1 + 1) 31 #[.int .i64 0, .int .i64 0, .int .i64 0, .int .i64 0, .int .i64 0, .int .i64 0, .slice none 0 0, .int .i64 0, .int .i64 0, .int .i64 0, .slice none 0 0, .int .i64 0, .int .i64 0, .int .i64 0] := by rw [hw3]; exact Cel_at (by simp)
  have xa := xat_any m K H W T R st A n c ac fl fr A2 n2 c2 nw tm rp w3 hN
  have HP := Lib.hid (And.intro pr3 (And.intro pz3 pq3))
  have HB := Lib.hid b3
  clear pr3 pz3 pq3 b3 hN
  go_enter Try.func18, Try.ntmps18
  go_wp2_with fail
  rw [← hw3]
  clear hw3
  refine xa.mono ?_
  rintro e w4 ⟨rfl, k4⟩
  clear xa
  have pr4 := Cel.later HP.out.1 k4
  have pz4 := Cel.later HP.out.2.1 k4
  have pq4 := Cel.later HP.out.2.2 k4
  have b4 := HB.out.trans (k4.mono HB.out.size)
  obtain ⟨W5, hW5⟩ : ∃ W5, W5 = put14 w4 w.heap.size (.int .i64 K) (.int .i64 H) (.int .i64 W) (.int .i64 T) (.int .i64 R) (.int .i64 st) (.slice A n c) (.int .i64 ac) (.int .i64 fl) (.int .i64 fr) (.slice A2 n2 c2) (.int .i64 nw1) (.int .i64 tm) (.int .i64 rp) := ⟨_, rfl⟩
  have k5 : Only [w.heap.size] w4 W5 := by rw [hW5]; exact put14_only _ _ _ _ _ _ _ _ _ _ _ _ _ _ _ _
  have pr5 : Cel W5 w.heap.size 31 #[.int .i64 K, .int .i64 H, .int .i64 W, .int .i64 T, .int .i64 R, .int .i64 st, .slice A n c, .int .i64 ac, .int .i64 fl, .int .i64 fr, .slice A2 n2 c2, .int .i64 nw1, .int .i64 tm, .int .i64 rp] := by rw [hW5]; exact put14_cel pr4 _ _ _ _ _ _ _ _ _ _ _ _ _ _
  have pz5 := pz4.only k5 (by simp; omega)
  have pq5 := pq4.only k5 (by simp)
  have b5 := b4.trans (k5.below b4.size (by simp))
  unfold put14 at hW5
  have a0 := pr4.cell 0
  have a1 := pr4.cell 1
  have a2 := pr4.cell 2
  have a3 := pr4.cell 3
  have a4 := pr4.cell 4
  have a5 := pr4.cell 5
  have a6 := pr4.cell 6
  have a7 := pr4.cell 7
  have a8 := pr4.cell 8
  have a9 := pr4.cell 9
  have a10 := pr4.cell 10
  have a11 := pr4.cell 11
  have a12 := pr4.cell 12
  have a13 := pr4.cell 13
  simp at a0 a1 a2 a3 a4 a5 a6 a7 a8 a9 a10 a11 a12 a13
  have ya0 := pr4.free 0
  have ya1 := pr4.free 1
  have ya2 := pr4.free 2
  have ya3 := pr4.free 3
  have ya4 := pr4.free 4
  have ya5 := pr4.free 5
  have ya6 := pr4.free 6
  have ya7 := pr4.free 7
  have ya8 := pr4.free 8
  have ya9 := pr4.free 9
  have ya10 := pr4.free 10
  have ya11 := pr4.free 11
  have ya12 := pr4.free 12
  have ya13 := pr4.free 13
  clear k4 k5 pz4 pq4 b4 pr4
  go_upto_region 2 with fail
  rw [← hW5]
  clear hW5 a0 ya0 a1 ya1 a2 ya2 a3 ya3 a4 ya4 a5 ya5 a6 ya6 a7 ya7 a8 ya8 a9 ya9 a10 ya10 a11 ya11 a12 ya12 a13 ya13
  have q0 := pq5.cell 0
  have q1 := pq5.cell 1
  have q2 := pq5.cell 2
  have q3 := pq5.cell 3
  have q4 := pq5.cell 4
  have q5 := pq5.cell 5
  simp at q0 q1 q2 q3 q4 q5
  go_wp2_with fail
  refine (zvalid_any ch true wt rt bp nx W5).mono ?_
  rintro e w6 ⟨rfl, k6⟩
  rw [hV]
  have pr6 := Cel.later pr5 k6
  have pz6 := Cel.later pz5 k6
  have pq6 := Cel.later pq5 k6
  have b6 := b5.trans (k6.mono b5.size)
  clear k6 pr5 pz5 pq5 b5 hV q0 q1 q2 q3 q4 q5
  have r0 := pr6.cell 0
  have r1 := pr6.cell 1
  have r2 := pr6.cell 2
  have r3 := pr6.cell 3
  have r4 := pr6.cell 4
  have r5 := pr6.cell 5
  have r6 := pr6.cell 6
  have r7 := pr6.cell 7
  have r8 := pr6.cell 8
  have r9 := pr6.cell 9
  have r10 := pr6.cell 10
  have r11 := pr6.cell 11
  have r12 := pr6.cell 12
  have r13 := pr6.cell 13
  simp at r0 r1 r2 r3 r4 r5 r6 r7 r8 r9 r10 r11 r12 r13
  have yr0 := pr6.free 0
  have yr1 := pr6.free 1
  have yr2 := pr6.free 2
  have yr3 := pr6.free 3
  have yr4 := pr6.free 4
  have yr5 := pr6.free 5
  have yr6 := pr6.free 6
  have yr7 := pr6.free 7
  have yr8 := pr6.free 8
  have yr9 := pr6.free 9
  have yr10 := pr6.free 10
  have yr11 := pr6.free 11
  have yr12 := pr6.free 12
  have yr13 := pr6.free 13
  have z0 := pz6.cell 0
  have z1 := pz6.cell 1
  have z2 := pz6.cell 2
  have z3 := pz6.cell 3
  have z4 := pz6.cell 4
  have z5 := pz6.cell 5
  have z6 := pz6.cell 6
  have z7 := pz6.cell 7
  have z8 := pz6.cell 8
  have z9 := pz6.cell 9
  have z10 := pz6.cell 10
  have z11 := pz6.cell 11
  have z12 := pz6.cell 12
  have z13 := pz6.cell 13
  simp at z0 z1 z2 z3 z4 z5 z6 z7 z8 z9 z10 z11 z12 z13
  have yz0 := pz6.free 0
  have yz1 := pz6.free 1
  have yz2 := pz6.free 2
  have yz3 := pz6.free 3
  have yz4 := pz6.free 4
  have yz5 := pz6.free 5
  have yz6 := pz6.free 6
  have yz7 := pz6.free 7
  have yz8 := pz6.free 8
  have yz9 := pz6.free 9
  have yz10 := pz6.free 10
  have yz11 := pz6.free 11
  have yz12 := pz6.free 12
  have yz13 := pz6.free 13
  have q0 := pq6.cell 0
  have q1 := pq6.cell 1
  have q2 := pq6.cell 2
  have q3 := pq6.cell 3
  have q4 := pq6.cell 4
  have q5 := pq6.cell 5
  simp at q0 q1 q2 q3 q4 q5
  obtain ⟨W7, hW7⟩ : ∃ W7, W7 = w6.setCell ⟨w.heap.size, 5, none⟩ (.int .i64 3) := ⟨_, rfl⟩
  have k7 : Only [w.heap.size] w6 W7 := by rw [hW7]; exact put_only _ _ 5 _
  have pz7 := pz6.only k7 (by simp; omega)
  have b7 := b6.trans (k7.below b6.size (by simp))
  have HFIN := Lib.hid (And.intro (put14_cel pz7 (.int .i64 K) (.int .i64 H) (.int .i64 W) (.int .i64 T) (.int .i64 R) (.int .i64 3) (.slice A n c) (.int .i64 ac) (.int .i64 fl) (.int .i64 fr) (.slice A2 n2 c2) (.int .i64 nw1) (.int .i64 tm) (.int .i64 rp)) (b7.trans ((put14_only W7 (w.heap.size + 1 + 1) (.int .i64 K) (.int .i64 H) (.int .i64 W) (.int .i64 T) (.int .i64 R) (.int .i64 3) (.slice A n c) (.int .i64 ac) (.int .i64 fl) (.int .i64 fr) (.slice A2 n2 c2) (.int .i64 nw1) (.int .i64 tm) (.int .i64 rp)).below b7.size (by simp; omega))))
  unfold put14 at HFIN
  rw [hW7] at HFIN
  clear pr6 pz6 pq6 b6 k7 pz7 b7 hW7
  go_wp2
  obtain ⟨fin_a, fin_b⟩ := HFIN.out
  clear HFIN
  exact bodyPost_ret (xr_results rfl rfl fin_a) rfl ⟨rfl, fin_b⟩

end Go.Proofs.Ytdpjjhbfhlmolaa.Fop
