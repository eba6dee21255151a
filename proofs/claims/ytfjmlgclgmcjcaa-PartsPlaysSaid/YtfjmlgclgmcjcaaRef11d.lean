/-
  The walk of the reference's Take (layer 11), where the packet is added.
-/
import Derived.Test.YtfjmlgclgmcjcaaRef11c
import Derived.Test.YtfjmlgclgmcjcaaHand
import Derived.Deep.Cut
namespace Go.Proofs.Ytfjmlgclgmcjcaa.Par
open Go.RowKit Go.Proofs.Ytfjmlgclgmcjcaa.Row
open Pac (Pk bel_new Cel.later Cel.within)

set_option maxHeartbeats 4000000 in
theorem xtake_cont_more (M : Int) (bu : Bool) (jap jct : Int) (A : Option Addr) (n c : Nat) (com sec : Bool) (ap ct : Int) (a : Option Addr) (m k : Nat) (w : World) (msg d : List Byte) (hmsg : Hid (msg.length = n)) (hd : Hid (d.length = m)) (hA : Bs w w.heap.size A msg) (hAn : A = none → c = 0) (hAa : Bs w w.heap.size a d) (han : a = none → k = 0) (hn9 : n ≤ 1000000) (hm9 : m ≤ 1000000) (h : rng ap 0 ct = true) (hm : 0 < m) (hj : 0 ≤ jct ∧ jct ≤ 16383) (hb : bu = true) (ha : ap = jap) (hc : ct = (jct + 1) % 16384) (hl : ¬ M < (n : Int) + (m : Int)) :
    Calls Try.prog 17 #[.agg (jv M bu jap jct (.slice A n c)), .agg #[.bool com, .bool sec, .int .i64 ap, .int .i64 0, .int .i64 ct, .slice a m k]] w fun e w' => ∃ q1 q2, e = .returned (.tuple #[.agg (jv M true ap ct (.slice q1 (n + m) q2)), .slice none 0 0, .bool false, .int .i64 0]) ∧ Ow w' w.heap.size 5 (.slice q1 (n + m) q2) (msg ++ d) ∧ Below w.heap.size w w' := by
  obtain ⟨j0, j1⟩ := hj
  subst hb ha hc
  obtain ⟨N, hN⟩ : ∃ N, (jct + 1) % 16384 = N := ⟨_, rfl⟩
  have n1 : (jct + 1).tmod 16384 = N := by rw [Int.tmod_eq_emod_of_nonneg (by omega)]; exact hN
  simp only [hN] at h ⊢
  clear hN
  have e1 : (ap != ap) = false := by simp
  have e2 : (N != N) = false := by simp
  obtain ⟨w3, hw3⟩ : ∃ w3, w3 = ((w.alloc (.cells (jv M true ap jct (.slice A n c)) 35)).alloc (.cells #[.bool com, .bool sec, .int .i64 ap, .int .i64 0, .int .i64 N, .slice a m k] 24)).alloc (.cells (jv 0 false 0 0 (.slice none 0 0)) 35) := ⟨_, rfl⟩
  obtain ⟨x2, x3, x4, b3, hs3⟩ := pre3 w w3 _ _ _ hw3
  have hh := xheader_any com sec ap 0 N (.slice a m k) w3
  rw [h] at hh
  unfold jv at hw3 ⊢
  have t1 : ((m : Int) == 0) = false := by simp; omega
  have t2 : (m == 0) = false := by simp; omega
  have s1 : decide (M < (n : Int) + (m : Int)) = false := by simpa using hl
  clear h hm hl
  go_enter Try.func17, Try.ntmps17
  go_wp2_with fail
  rw [← hw3]
  refine hh.mono ?_
  rintro e w4 ⟨rfl, b4⟩
  have y2 := Cel.later x2 b4
  have y3 := Cel.later x3 b4
  have y4 := Cel.later x4 b4
  have b5 := b3.trans (b4.mono b3.size)
  clear x2 x3 x4 b3 hh hw3
  have z2 := Cel.later y2 (bel_new w4 (.cells #[.int .i64 M, .bool false, .int .i64 0, .int .i64 0, .slice none 0 0] 35))
  have z3 := Cel.later y3 (bel_new w4 (.cells #[.int .i64 M, .bool false, .int .i64 0, .int .i64 0, .slice none 0 0] 35))
  have z4 := Cel.later y4 (bel_new w4 (.cells #[.int .i64 M, .bool false, .int .i64 0, .int .i64 0, .slice none 0 0] 35))
  have z8 := Cel.new w4 35 #[.int .i64 M, .bool false, .int .i64 0, .int .i64 0, .slice none 0 0]
  have b7 := b5.trans ((bel_new w4 (.cells #[.int .i64 M, .bool false, .int .i64 0, .int .i64 0, .slice none 0 0] 35)).mono b5.size)
  have p0 : w4.cell? ⟨w.heap.size, 0, none⟩ = some (.int .i64 M) := y2.cell 0
  have p1 : w4.cell? ⟨w.heap.size, 1, none⟩ = some (.bool true) := y2.cell 1
  have p2 : w4.cell? ⟨w.heap.size, 2, none⟩ = some (.int .i64 ap) := y2.cell 2
  have p3 : w4.cell? ⟨w.heap.size, 3, none⟩ = some (.int .i64 jct) := y2.cell 3
  have p4 : w4.cell? ⟨w.heap.size, 4, none⟩ = some (.slice A n c) := y2.cell 4
  have r0 : w4.cell? ⟨w.heap.size + 1, 0, none⟩ = some (.bool com) := y3.cell 0
  have r1 : w4.cell? ⟨w.heap.size + 1, 1, none⟩ = some (.bool sec) := y3.cell 1
  have r2 : w4.cell? ⟨w.heap.size + 1, 2, none⟩ = some (.int .i64 ap) := y3.cell 2
  have r3 : w4.cell? ⟨w.heap.size + 1, 3, none⟩ = some (.int .i64 0) := y3.cell 3
  have r4 : w4.cell? ⟨w.heap.size + 1, 4, none⟩ = some (.int .i64 N) := y3.cell 4
  have r5 : w4.cell? ⟨w.heap.size + 1, 5, none⟩ = some (.slice a m k) := y3.cell 5
  obtain ⟨W5, hW5⟩ : ∃ W5, W5 = (w4.alloc (.cells #[.int .i64 M, .bool false, .int .i64 0, .int .i64 0, .slice none 0 0] 35)) := ⟨_, rfl⟩
  rw [← hW5] at z2 z3 z4 z8 b7
  have hz4 : w.heap.size < w4.heap.size := y2.lt
  have hz44 : w.heap.size + 1 < w4.heap.size := y3.lt
  have hz5 : w.heap.size + 1 + 1 < w4.heap.size := y4.lt
  go_upto_region 4 with fail
  rw [← hW5]
  clear hW5 y2 y3 y4 p0 p1 p2 p3 p4 r0 r1 r2 r3 r4 r5
  have p0 : W5.cell? ⟨w.heap.size, 0, none⟩ = some (.int .i64 M) := z2.cell 0
  have p1 : W5.cell? ⟨w.heap.size, 1, none⟩ = some (.bool true) := z2.cell 1
  have p2 : W5.cell? ⟨w.heap.size, 2, none⟩ = some (.int .i64 ap) := z2.cell 2
  have p3 : W5.cell? ⟨w.heap.size, 3, none⟩ = some (.int .i64 jct) := z2.cell 3
  have p4 : W5.cell? ⟨w.heap.size, 4, none⟩ = some (.slice A n c) := z2.cell 4
  have pf0 := z2.free 0
  have pf1 := z2.free 1
  have pf2 := z2.free 2
  have pf3 := z2.free 3
  have pf4 := z2.free 4
  have r0 : W5.cell? ⟨w.heap.size + 1, 0, none⟩ = some (.bool com) := z3.cell 0
  have r1 : W5.cell? ⟨w.heap.size + 1, 1, none⟩ = some (.bool sec) := z3.cell 1
  have r2 : W5.cell? ⟨w.heap.size + 1, 2, none⟩ = some (.int .i64 ap) := z3.cell 2
  have r3 : W5.cell? ⟨w.heap.size + 1, 3, none⟩ = some (.int .i64 0) := z3.cell 3
  have r4 : W5.cell? ⟨w.heap.size + 1, 4, none⟩ = some (.int .i64 N) := z3.cell 4
  have r5 : W5.cell? ⟨w.heap.size + 1, 5, none⟩ = some (.slice a m k) := z3.cell 5
  have j0 : W5.cell? ⟨w4.heap.size, 0, none⟩ = some (.int .i64 M) := z8.cell 0
  have j1 : W5.cell? ⟨w4.heap.size, 1, none⟩ = some (.bool false) := z8.cell 1
  have j2 : W5.cell? ⟨w4.heap.size, 2, none⟩ = some (.int .i64 0) := z8.cell 2
  have j3 : W5.cell? ⟨w4.heap.size, 3, none⟩ = some (.int .i64 0) := z8.cell 3
  have j4 : W5.cell? ⟨w4.heap.size, 4, none⟩ = some (.slice none 0 0) := z8.cell 4
  go_upto_region 10 with fail
  refine wp_region_held_drew (S := (fun w' => w'.cell? ⟨w.heap.size, 4, none⟩ = some (.slice A n c) ∧ w'.cell? ⟨w.heap.size + 1, 5, none⟩ = some (.slice a m k))) (by kernel_rfl) (⟨p4, r5⟩) (fun hHeld => ?_)
  refine wpAnyH_here 1 (v := ?_) rfl (by kernel_rfl) (by kernel_rfl) (by kernel_rfl) (fun _ _ _ h => h) (Or.inl ⟨by rfl, ?_⟩) hHeld ?_
  rotate_left
  · intro w hSw; (try dsimp only at hSw); go_simp; all_goals (with_reducible rfl)
  try simp only [Act.put, List.setIfInBounds_toArray, List.set_cons_zero, List.set_cons_succ]
  refine wpAnyH_here 2 (v := ?_) rfl (by kernel_rfl) (by kernel_rfl) (by kernel_rfl) (fun _ _ _ h => h) (Or.inl ⟨by rfl, ?_⟩) hHeld ?_
  rotate_left
  · intro w hSw; (try dsimp only at hSw); go_simp; all_goals (with_reducible rfl)
  try simp only [Act.put, List.setIfInBounds_toArray, List.set_cons_zero, List.set_cons_succ]
  refine wpAnyH_here 4 (v := ?_) rfl (by kernel_rfl) (by kernel_rfl) (by kernel_rfl) (fun _ _ _ h => h) (Or.inl ⟨by rfl, ?_⟩) hHeld ?_
  rotate_left
  · intro w hSw; (try dsimp only at hSw); go_simp; all_goals (with_reducible rfl)
  try simp only [Act.put, List.setIfInBounds_toArray, List.set_cons_zero, List.set_cons_succ]
  refine wpAnyH_here 5 (v := ?_) rfl (by kernel_rfl) (by kernel_rfl) (by kernel_rfl) (fun _ _ _ h => h) (Or.inl ⟨by rfl, ?_⟩) hHeld ?_
  rotate_left
  · intro w hSw; (try dsimp only at hSw); go_simp; all_goals (with_reducible rfl)
  try simp only [Act.put, List.setIfInBounds_toArray, List.set_cons_zero, List.set_cons_succ]
  refine wpAnyH_alone 0 rfl (by kernel_rfl) (fun K hK => ?_)
  go_simp
  skip
  refine hK.out _ _ (⟨Lib.cell?_alloc_some _ p4, Lib.cell?_alloc_some _ r5⟩) (fun hHeld => ?_)
  clear hK K
  try simp only [Act.put, List.setIfInBounds_toArray, List.set_cons_zero, List.set_cons_succ]
  have bb1 : Below W5.heap.size W5 (W5.alloc (.cells #[] 5)).drew := (bel_new W5 (.cells #[] 5)).trans ⟨rfl, rfl, rfl, Nat.le_refl _, fun _ _ => rfl⟩
  have oo1 := (Ow_empty W5 W5.heap.size 5 (Nat.le_refl _)).drew
  have bw1 := b7.trans (bb1.mono b7.size)
  refine wpAnyH_alone 3 rfl (by kernel_rfl) (fun K' hK' => ?_)
  refine step_app _ is_bytes rfl (.tmp 73) (.tmp 75) rfl (m := []) rfl oo1 (l := msg) (A := A) (c := c) (by rw [hmsg.out]; rfl) (hA.below bw1) hAn (by simp only [List.length_nil]; rw [hmsg.out]; omega) bb1.size ?_
  intro v2 W11 oo2 hgr2
  rw [List.nil_append] at oo2
  have bb2 := bb1.grown hgr2 bb1.size (fun i hi => oo1.base_le i hi)
  have bw2 := b7.trans (bb2.mono b7.size)
  refine hK'.out _ _ (⟨(bb2.cell (p := ⟨w.heap.size, 4, none⟩) z2.lt).trans p4, (bb2.cell (p := ⟨w.heap.size + 1, 5, none⟩) z3.lt).trans r5⟩) (fun hHeld => ?_)
  clear hK' K'
  try simp only [Act.put, List.setIfInBounds_toArray, List.set_cons_zero, List.set_cons_succ]
  refine wpAnyH_alone 6 rfl (by kernel_rfl) (fun K' hK' => ?_)
  refine step_app _ is_bytes rfl (.tmp 76) (.tmp 78) rfl (m := msg) rfl oo2 (l := d) (A := a) (c := k) (by rw [hd.out]; rfl) (hAa.below bw2) han (by rw [hmsg.out, hd.out]; omega) bb2.size ?_
  intro v3 W12 oo3 hgr3
  obtain ⟨q1, q2, rfl, _⟩ := oo3.reads_len (n := n + m) (by simp [hd.out, hmsg.out])
  have bb3 := bb2.grown hgr3 bb2.size (fun i hi => oo2.base_le i hi)
  have bw3 := b7.trans (bb3.mono b7.size)
  refine hK'.out _ _ (⟨(bb3.cell (p := ⟨w.heap.size, 4, none⟩) z2.lt).trans p4, (bb3.cell (p := ⟨w.heap.size + 1, 5, none⟩) z3.lt).trans r5⟩) (fun hHeld => ?_)
  clear hK' K'
  try simp only [Act.put, List.setIfInBounds_toArray, List.set_cons_zero, List.set_cons_succ]
  refine wpAnyH_here 7 (v := ?_) rfl (by kernel_rfl) (by kernel_rfl) (by kernel_rfl) (fun _ _ _ h => h) (Or.inl ⟨by rfl, ?_⟩) hHeld ?_
  rotate_left
  · intro w hSw; (try dsimp only at hSw); go_simp; all_goals (with_reducible rfl)
  try simp only [Act.put, List.setIfInBounds_toArray, List.set_cons_zero, List.set_cons_succ]
  refine wpAnyH_done (by kernel_rfl) ?_ _
  clear hHeld p0 p1 p2 p3 p4 r0 r1 r2 r3 r4 r5 j0 j1 j2 j3 j4
  have l2 := Cel.later z2 bb3
  have l3 := Cel.later z3 bb3
  have l4 := Cel.later z4 bb3
  have l8 := Cel.later z8 bb3
  have p0 : W12.cell? ⟨w.heap.size, 0, none⟩ = some (.int .i64 M) := l2.cell 0
  have p1 : W12.cell? ⟨w.heap.size, 1, none⟩ = some (.bool true) := l2.cell 1
  have p2 : W12.cell? ⟨w.heap.size, 2, none⟩ = some (.int .i64 ap) := l2.cell 2
  have p3 : W12.cell? ⟨w.heap.size, 3, none⟩ = some (.int .i64 jct) := l2.cell 3
  have p4 : W12.cell? ⟨w.heap.size, 4, none⟩ = some (.slice A n c) := l2.cell 4
  have r0 : W12.cell? ⟨w.heap.size + 1, 0, none⟩ = some (.bool com) := l3.cell 0
  have r1 : W12.cell? ⟨w.heap.size + 1, 1, none⟩ = some (.bool sec) := l3.cell 1
  have r2 : W12.cell? ⟨w.heap.size + 1, 2, none⟩ = some (.int .i64 ap) := l3.cell 2
  have r3 : W12.cell? ⟨w.heap.size + 1, 3, none⟩ = some (.int .i64 0) := l3.cell 3
  have r4 : W12.cell? ⟨w.heap.size + 1, 4, none⟩ = some (.int .i64 N) := l3.cell 4
  have r5 : W12.cell? ⟨w.heap.size + 1, 5, none⟩ = some (.slice a m k) := l3.cell 5
  have j0 : W12.cell? ⟨w4.heap.size, 0, none⟩ = some (.int .i64 M) := l8.cell 0
  have j1 : W12.cell? ⟨w4.heap.size, 1, none⟩ = some (.bool false) := l8.cell 1
  have j2 : W12.cell? ⟨w4.heap.size, 2, none⟩ = some (.int .i64 0) := l8.cell 2
  have j3 : W12.cell? ⟨w4.heap.size, 3, none⟩ = some (.int .i64 0) := l8.cell 3
  have j4 : W12.cell? ⟨w4.heap.size, 4, none⟩ = some (.slice none 0 0) := l8.cell 4
  have q0 : W12.cell? ⟨w.heap.size + 1 + 1, 0, none⟩ = some (.int .i64 0) := l4.cell 0
  have q1 : W12.cell? ⟨w.heap.size + 1 + 1, 1, none⟩ = some (.bool false) := l4.cell 1
  have q2 : W12.cell? ⟨w.heap.size + 1 + 1, 2, none⟩ = some (.int .i64 0) := l4.cell 2
  have q3 : W12.cell? ⟨w.heap.size + 1 + 1, 3, none⟩ = some (.int .i64 0) := l4.cell 3
  have q4 : W12.cell? ⟨w.heap.size + 1 + 1, 4, none⟩ = some (.slice none 0 0) := l4.cell 4
  have qf0 := l4.free 0
  have qf1 := l4.free 1
  have qf2 := l4.free 2
  have qf3 := l4.free 3
  have qf4 := l4.free 4
  go_wp2
  exact bodyPost_ret (take_results rfl rfl rfl rfl (Cel.put5 l4 _ _ _ _ _)) rfl ⟨_, _, rfl, (oo3.more b7.size).only (only5 _ (w.heap.size + 1 + 1) _ _ _ _ _) (fun i hi hm => oo3.apart l4 (by decide) (by rw [hi, List.mem_singleton.1 hm])), bw3.trans ((only5 _ (w.heap.size + 1 + 1) _ _ _ _ _).below bw3.size (fun x hx => by obtain rfl := List.mem_singleton.1 hx; omega))⟩

set_option maxHeartbeats 4000000 in
theorem xtake_cont_done (M : Int) (bu : Bool) (jap jct : Int) (A : Option Addr) (n c : Nat) (com sec : Bool) (ap ct : Int) (a : Option Addr) (m k : Nat) (w : World) (msg d : List Byte) (hmsg : Hid (msg.length = n)) (hd : Hid (d.length = m)) (hA : Bs w w.heap.size A msg) (hAn : A = none → c = 0) (hAa : Bs w w.heap.size a d) (han : a = none → k = 0) (hn9 : n ≤ 1000000) (hm9 : m ≤ 1000000) (h : rng ap 0 ct = true) (hm : 0 < m) (hj : 0 ≤ jct ∧ jct ≤ 16383) (hb : bu = true) (ha : ap = jap) (hc : ct = (jct + 1) % 16384) (hl : ¬ M < (n : Int) + (m : Int)) :
    Calls Try.prog 17 #[.agg (jv M bu jap jct (.slice A n c)), .agg #[.bool com, .bool sec, .int .i64 ap, .int .i64 2, .int .i64 ct, .slice a m k]] w fun e w' => ∃ v, e = .returned (.tuple #[.agg (jv M false 0 0 (.slice none 0 0)), v, .bool true, .int .i64 0]) ∧ Ow w' w.heap.size 5 v (msg ++ d) ∧ Below w.heap.size w w' := by
  obtain ⟨j0, j1⟩ := hj
  subst hb ha hc
  obtain ⟨N, hN⟩ : ∃ N, (jct + 1) % 16384 = N := ⟨_, rfl⟩
  have n1 : (jct + 1).tmod 16384 = N := by rw [Int.tmod_eq_emod_of_nonneg (by omega)]; exact hN
  simp only [hN] at h ⊢
  clear hN
  have e1 : (ap != ap) = false := by simp
  have e2 : (N != N) = false := by simp
  obtain ⟨w3, hw3⟩ : ∃ w3, w3 = ((w.alloc (.cells (jv M true ap jct (.slice A n c)) 35)).alloc (.cells #[.bool com, .bool sec, .int .i64 ap, .int .i64 2, .int .i64 N, .slice a m k] 24)).alloc (.cells (jv 0 false 0 0 (.slice none 0 0)) 35) := ⟨_, rfl⟩
  obtain ⟨x2, x3, x4, b3, hs3⟩ := pre3 w w3 _ _ _ hw3
  have hh := xheader_any com sec ap 2 N (.slice a m k) w3
  rw [h] at hh
  unfold jv at hw3 ⊢
  have t1 : ((m : Int) == 0) = false := by simp; omega
  have t2 : (m == 0) = false := by simp; omega
  have s1 : decide (M < (n : Int) + (m : Int)) = false := by simpa using hl
  clear h hm hl
  go_enter Try.func17, Try.ntmps17
  go_wp2_with fail
  rw [← hw3]
  refine hh.mono ?_
  rintro e w4 ⟨rfl, b4⟩
  have y2 := Cel.later x2 b4
  have y3 := Cel.later x3 b4
  have y4 := Cel.later x4 b4
  have b5 := b3.trans (b4.mono b3.size)
  clear x2 x3 x4 b3 hh hw3
  have z2 := Cel.later y2 (bel_new w4 (.cells #[.int .i64 M, .bool false, .int .i64 0, .int .i64 0, .slice none 0 0] 35))
  have z3 := Cel.later y3 (bel_new w4 (.cells #[.int .i64 M, .bool false, .int .i64 0, .int .i64 0, .slice none 0 0] 35))
  have z4 := Cel.later y4 (bel_new w4 (.cells #[.int .i64 M, .bool false, .int .i64 0, .int .i64 0, .slice none 0 0] 35))
  have z8 := Cel.new w4 35 #[.int .i64 M, .bool false, .int .i64 0, .int .i64 0, .slice none 0 0]
  have b7 := b5.trans ((bel_new w4 (.cells #[.int .i64 M, .bool false, .int .i64 0, .int .i64 0, .slice none 0 0] 35)).mono b5.size)
  have p0 : w4.cell? ⟨w.heap.size, 0, none⟩ = some (.int .i64 M) := y2.cell 0
  have p1 : w4.cell? ⟨w.heap.size, 1, none⟩ = some (.bool true) := y2.cell 1
  have p2 : w4.cell? ⟨w.heap.size, 2, none⟩ = some (.int .i64 ap) := y2.cell 2
  have p3 : w4.cell? ⟨w.heap.size, 3, none⟩ = some (.int .i64 jct) := y2.cell 3
  have p4 : w4.cell? ⟨w.heap.size, 4, none⟩ = some (.slice A n c) := y2.cell 4
  have r0 : w4.cell? ⟨w.heap.size + 1, 0, none⟩ = some (.bool com) := y3.cell 0
  have r1 : w4.cell? ⟨w.heap.size + 1, 1, none⟩ = some (.bool sec) := y3.cell 1
  have r2 : w4.cell? ⟨w.heap.size + 1, 2, none⟩ = some (.int .i64 ap) := y3.cell 2
  have r3 : w4.cell? ⟨w.heap.size + 1, 3, none⟩ = some (.int .i64 2) := y3.cell 3
  have r4 : w4.cell? ⟨w.heap.size + 1, 4, none⟩ = some (.int .i64 N) := y3.cell 4
  have r5 : w4.cell? ⟨w.heap.size + 1, 5, none⟩ = some (.slice a m k) := y3.cell 5
  obtain ⟨W5, hW5⟩ : ∃ W5, W5 = (w4.alloc (.cells #[.int .i64 M, .bool false, .int .i64 0, .int .i64 0, .slice none 0 0] 35)) := ⟨_, rfl⟩
  rw [← hW5] at z2 z3 z4 z8 b7
  have hz4 : w.heap.size < w4.heap.size := y2.lt
  have hz44 : w.heap.size + 1 < w4.heap.size := y3.lt
  have hz5 : w.heap.size + 1 + 1 < w4.heap.size := y4.lt
  go_upto_region 4 with fail
  rw [← hW5]
  clear hW5 y2 y3 y4 p0 p1 p2 p3 p4 r0 r1 r2 r3 r4 r5
  have p0 : W5.cell? ⟨w.heap.size, 0, none⟩ = some (.int .i64 M) := z2.cell 0
  have p1 : W5.cell? ⟨w.heap.size, 1, none⟩ = some (.bool true) := z2.cell 1
  have p2 : W5.cell? ⟨w.heap.size, 2, none⟩ = some (.int .i64 ap) := z2.cell 2
  have p3 : W5.cell? ⟨w.heap.size, 3, none⟩ = some (.int .i64 jct) := z2.cell 3
  have p4 : W5.cell? ⟨w.heap.size, 4, none⟩ = some (.slice A n c) := z2.cell 4
  have pf0 := z2.free 0
  have pf1 := z2.free 1
  have pf2 := z2.free 2
  have pf3 := z2.free 3
  have pf4 := z2.free 4
  have r0 : W5.cell? ⟨w.heap.size + 1, 0, none⟩ = some (.bool com) := z3.cell 0
  have r1 : W5.cell? ⟨w.heap.size + 1, 1, none⟩ = some (.bool sec) := z3.cell 1
  have r2 : W5.cell? ⟨w.heap.size + 1, 2, none⟩ = some (.int .i64 ap) := z3.cell 2
  have r3 : W5.cell? ⟨w.heap.size + 1, 3, none⟩ = some (.int .i64 2) := z3.cell 3
  have r4 : W5.cell? ⟨w.heap.size + 1, 4, none⟩ = some (.int .i64 N) := z3.cell 4
  have r5 : W5.cell? ⟨w.heap.size + 1, 5, none⟩ = some (.slice a m k) := z3.cell 5
  have j0 : W5.cell? ⟨w4.heap.size, 0, none⟩ = some (.int .i64 M) := z8.cell 0
  have j1 : W5.cell? ⟨w4.heap.size, 1, none⟩ = some (.bool false) := z8.cell 1
  have j2 : W5.cell? ⟨w4.heap.size, 2, none⟩ = some (.int .i64 0) := z8.cell 2
  have j3 : W5.cell? ⟨w4.heap.size, 3, none⟩ = some (.int .i64 0) := z8.cell 3
  have j4 : W5.cell? ⟨w4.heap.size, 4, none⟩ = some (.slice none 0 0) := z8.cell 4
  go_upto_region 10 with fail
  refine wp_region_held_drew (S := (fun w' => w'.cell? ⟨w.heap.size, 4, none⟩ = some (.slice A n c) ∧ w'.cell? ⟨w.heap.size + 1, 5, none⟩ = some (.slice a m k))) (by kernel_rfl) (⟨p4, r5⟩) (fun hHeld => ?_)
  refine wpAnyH_here 1 (v := ?_) rfl (by kernel_rfl) (by kernel_rfl) (by kernel_rfl) (fun _ _ _ h => h) (Or.inl ⟨by rfl, ?_⟩) hHeld ?_
  rotate_left
  · intro w hSw; (try dsimp only at hSw); go_simp; all_goals (with_reducible rfl)
  try simp only [Act.put, List.setIfInBounds_toArray, List.set_cons_zero, List.set_cons_succ]
  refine wpAnyH_here 2 (v := ?_) rfl (by kernel_rfl) (by kernel_rfl) (by kernel_rfl) (fun _ _ _ h => h) (Or.inl ⟨by rfl, ?_⟩) hHeld ?_
  rotate_left
  · intro w hSw; (try dsimp only at hSw); go_simp; all_goals (with_reducible rfl)
  try simp only [Act.put, List.setIfInBounds_toArray, List.set_cons_zero, List.set_cons_succ]
  refine wpAnyH_here 4 (v := ?_) rfl (by kernel_rfl) (by kernel_rfl) (by kernel_rfl) (fun _ _ _ h => h) (Or.inl ⟨by rfl, ?_⟩) hHeld ?_
  rotate_left
  · intro w hSw; (try dsimp only at hSw); go_simp; all_goals (with_reducible rfl)
  try simp only [Act.put, List.setIfInBounds_toArray, List.set_cons_zero, List.set_cons_succ]
  refine wpAnyH_here 5 (v := ?_) rfl (by kernel_rfl) (by kernel_rfl) (by kernel_rfl) (fun _ _ _ h => h) (Or.inl ⟨by rfl, ?_⟩) hHeld ?_
  rotate_left
  · intro w hSw; (try dsimp only at hSw); go_simp; all_goals (with_reducible rfl)
  try simp only [Act.put, List.setIfInBounds_toArray, List.set_cons_zero, List.set_cons_succ]
  refine wpAnyH_alone 0 rfl (by kernel_rfl) (fun K hK => ?_)
  go_simp
  skip
  refine hK.out _ _ (⟨Lib.cell?_alloc_some _ p4, Lib.cell?_alloc_some _ r5⟩) (fun hHeld => ?_)
  clear hK K
  try simp only [Act.put, List.setIfInBounds_toArray, List.set_cons_zero, List.set_cons_succ]
  have bb1 : Below W5.heap.size W5 (W5.alloc (.cells #[] 5)).drew := (bel_new W5 (.cells #[] 5)).trans ⟨rfl, rfl, rfl, Nat.le_refl _, fun _ _ => rfl⟩
  have oo1 := (Ow_empty W5 W5.heap.size 5 (Nat.le_refl _)).drew
  have bw1 := b7.trans (bb1.mono b7.size)
  refine wpAnyH_alone 3 rfl (by kernel_rfl) (fun K' hK' => ?_)
  refine step_app _ is_bytes rfl (.tmp 73) (.tmp 75) rfl (m := []) rfl oo1 (l := msg) (A := A) (c := c) (by rw [hmsg.out]; rfl) (hA.below bw1) hAn (by simp only [List.length_nil]; rw [hmsg.out]; omega) bb1.size ?_
  intro v2 W11 oo2 hgr2
  rw [List.nil_append] at oo2
  have bb2 := bb1.grown hgr2 bb1.size (fun i hi => oo1.base_le i hi)
  have bw2 := b7.trans (bb2.mono b7.size)
  refine hK'.out _ _ (⟨(bb2.cell (p := ⟨w.heap.size, 4, none⟩) z2.lt).trans p4, (bb2.cell (p := ⟨w.heap.size + 1, 5, none⟩) z3.lt).trans r5⟩) (fun hHeld => ?_)
  clear hK' K'
  try simp only [Act.put, List.setIfInBounds_toArray, List.set_cons_zero, List.set_cons_succ]
  refine wpAnyH_alone 6 rfl (by kernel_rfl) (fun K' hK' => ?_)
  refine step_app _ is_bytes rfl (.tmp 76) (.tmp 78) rfl (m := msg) rfl oo2 (l := d) (A := a) (c := k) (by rw [hd.out]; rfl) (hAa.below bw2) han (by rw [hmsg.out, hd.out]; omega) bb2.size ?_
  intro v3 W12 oo3 hgr3
  obtain ⟨q1, q2, rfl, _⟩ := oo3.reads_len (n := n + m) (by simp [hd.out, hmsg.out])
  have bb3 := bb2.grown hgr3 bb2.size (fun i hi => oo2.base_le i hi)
  have bw3 := b7.trans (bb3.mono b7.size)
  refine hK'.out _ _ (⟨(bb3.cell (p := ⟨w.heap.size, 4, none⟩) z2.lt).trans p4, (bb3.cell (p := ⟨w.heap.size + 1, 5, none⟩) z3.lt).trans r5⟩) (fun hHeld => ?_)
  clear hK' K'
  try simp only [Act.put, List.setIfInBounds_toArray, List.set_cons_zero, List.set_cons_succ]
  refine wpAnyH_here 7 (v := ?_) rfl (by kernel_rfl) (by kernel_rfl) (by kernel_rfl) (fun _ _ _ h => h) (Or.inl ⟨by rfl, ?_⟩) hHeld ?_
  rotate_left
  · intro w hSw; (try dsimp only at hSw); go_simp; all_goals (with_reducible rfl)
  try simp only [Act.put, List.setIfInBounds_toArray, List.set_cons_zero, List.set_cons_succ]
  refine wpAnyH_done (by kernel_rfl) ?_ _
  clear hHeld p0 p1 p2 p3 p4 r0 r1 r2 r3 r4 r5 j0 j1 j2 j3 j4
  have l2 := Cel.later z2 bb3
  have l3 := Cel.later z3 bb3
  have l4 := Cel.later z4 bb3
  have l8 := Cel.later z8 bb3
  have p0 : W12.cell? ⟨w.heap.size, 0, none⟩ = some (.int .i64 M) := l2.cell 0
  have p1 : W12.cell? ⟨w.heap.size, 1, none⟩ = some (.bool true) := l2.cell 1
  have p2 : W12.cell? ⟨w.heap.size, 2, none⟩ = some (.int .i64 ap) := l2.cell 2
  have p3 : W12.cell? ⟨w.heap.size, 3, none⟩ = some (.int .i64 jct) := l2.cell 3
  have p4 : W12.cell? ⟨w.heap.size, 4, none⟩ = some (.slice A n c) := l2.cell 4
  have r0 : W12.cell? ⟨w.heap.size + 1, 0, none⟩ = some (.bool com) := l3.cell 0
  have r1 : W12.cell? ⟨w.heap.size + 1, 1, none⟩ = some (.bool sec) := l3.cell 1
  have r2 : W12.cell? ⟨w.heap.size + 1, 2, none⟩ = some (.int .i64 ap) := l3.cell 2
  have r3 : W12.cell? ⟨w.heap.size + 1, 3, none⟩ = some (.int .i64 2) := l3.cell 3
  have r4 : W12.cell? ⟨w.heap.size + 1, 4, none⟩ = some (.int .i64 N) := l3.cell 4
  have r5 : W12.cell? ⟨w.heap.size + 1, 5, none⟩ = some (.slice a m k) := l3.cell 5
  have j0 : W12.cell? ⟨w4.heap.size, 0, none⟩ = some (.int .i64 M) := l8.cell 0
  have j1 : W12.cell? ⟨w4.heap.size, 1, none⟩ = some (.bool false) := l8.cell 1
  have j2 : W12.cell? ⟨w4.heap.size, 2, none⟩ = some (.int .i64 0) := l8.cell 2
  have j3 : W12.cell? ⟨w4.heap.size, 3, none⟩ = some (.int .i64 0) := l8.cell 3
  have j4 : W12.cell? ⟨w4.heap.size, 4, none⟩ = some (.slice none 0 0) := l8.cell 4
  have q0 : W12.cell? ⟨w.heap.size + 1 + 1, 0, none⟩ = some (.int .i64 0) := l4.cell 0
  have q1 : W12.cell? ⟨w.heap.size + 1 + 1, 1, none⟩ = some (.bool false) := l4.cell 1
  have q2 : W12.cell? ⟨w.heap.size + 1 + 1, 2, none⟩ = some (.int .i64 0) := l4.cell 2
  have q3 : W12.cell? ⟨w.heap.size + 1 + 1, 3, none⟩ = some (.int .i64 0) := l4.cell 3
  have q4 : W12.cell? ⟨w.heap.size + 1 + 1, 4, none⟩ = some (.slice none 0 0) := l4.cell 4
  have qf0 := l4.free 0
  have qf1 := l4.free 1
  have qf2 := l4.free 2
  have qf3 := l4.free 3
  have qf4 := l4.free 4
  go_wp2
  exact bodyPost_ret (take_results rfl rfl rfl rfl (Cel.put5 l4 _ _ _ _ _)) rfl ⟨_, rfl, (oo3.more b7.size).only (only5 _ (w.heap.size + 1 + 1) _ _ _ _ _) (fun i hi hm => oo3.apart l4 (by decide) (by rw [hi, List.mem_singleton.1 hm])), bw3.trans ((only5 _ (w.heap.size + 1 + 1) _ _ _ _ _).below bw3.size (fun x hx => by obtain rfl := List.mem_singleton.1 hx; omega))⟩

set_option maxHeartbeats 4000000 in
theorem xtake_new_more (M : Int) (bu : Bool) (jap jct : Int) (A : Option Addr) (n c : Nat) (com sec : Bool) (ap ct : Int) (a : Option Addr) (m k : Nat) (w : World) (d : List Byte) (hd : Hid (d.length = m)) (hAa : Bs w w.heap.size a d) (han : a = none → k = 0) (hm9 : m ≤ 1000000) (h : rng ap 0 ct = true) (hm : 0 < m) (hl : ¬ M < (m : Int)) :
    Calls Try.prog 17 #[.agg (jv M bu jap jct (.slice A n c)), .agg #[.bool com, .bool sec, .int .i64 ap, .int .i64 1, .int .i64 ct, .slice a m k]] w fun e w' => ∃ q1 q2, e = .returned (.tuple #[.agg (jv M true ap ct (.slice q1 m q2)), .slice none 0 0, .bool false, .int .i64 0]) ∧ Ow w' w.heap.size 5 (.slice q1 m q2) d ∧ Below w.heap.size w w' := by
  obtain ⟨w3, hw3⟩ : ∃ w3, w3 = ((w.alloc (.cells (jv M bu jap jct (.slice A n c)) 35)).alloc (.cells #[.bool com, .bool sec, .int .i64 ap, .int .i64 1, .int .i64 ct, .slice a m k] 24)).alloc (.cells (jv 0 false 0 0 (.slice none 0 0)) 35) := ⟨_, rfl⟩
  obtain ⟨x2, x3, x4, b3, hs3⟩ := pre3 w w3 _ _ _ hw3
  have hh := xheader_any com sec ap 1 ct (.slice a m k) w3
  rw [h] at hh
  unfold jv at hw3 ⊢
  have t1 : ((m : Int) == 0) = false := by simp; omega
  have t2 : (m == 0) = false := by simp; omega
  have s1 : decide (M < (m : Int)) = false := by simpa using hl
  clear h hm hl
  go_enter Try.func17, Try.ntmps17
  go_wp2_with fail
  rw [← hw3]
  refine hh.mono ?_
  rintro e w4 ⟨rfl, b4⟩
  have y2 := Cel.later x2 b4
  have y3 := Cel.later x3 b4
  have y4 := Cel.later x4 b4
  have b5 := b3.trans (b4.mono b3.size)
  clear x2 x3 x4 b3 hh hw3
  have z2 := Cel.later y2 (bel_new w4 (.cells #[.int .i64 M, .bool false, .int .i64 0, .int .i64 0, .slice none 0 0] 35))
  have z3 := Cel.later y3 (bel_new w4 (.cells #[.int .i64 M, .bool false, .int .i64 0, .int .i64 0, .slice none 0 0] 35))
  have z4 := Cel.later y4 (bel_new w4 (.cells #[.int .i64 M, .bool false, .int .i64 0, .int .i64 0, .slice none 0 0] 35))
  have z8 := Cel.new w4 35 #[.int .i64 M, .bool false, .int .i64 0, .int .i64 0, .slice none 0 0]
  have b7 := b5.trans ((bel_new w4 (.cells #[.int .i64 M, .bool false, .int .i64 0, .int .i64 0, .slice none 0 0] 35)).mono b5.size)
  have p0 : w4.cell? ⟨w.heap.size, 0, none⟩ = some (.int .i64 M) := y2.cell 0
  have p1 : w4.cell? ⟨w.heap.size, 1, none⟩ = some (.bool bu) := y2.cell 1
  have p2 : w4.cell? ⟨w.heap.size, 2, none⟩ = some (.int .i64 jap) := y2.cell 2
  have p3 : w4.cell? ⟨w.heap.size, 3, none⟩ = some (.int .i64 jct) := y2.cell 3
  have p4 : w4.cell? ⟨w.heap.size, 4, none⟩ = some (.slice A n c) := y2.cell 4
  have r0 : w4.cell? ⟨w.heap.size + 1, 0, none⟩ = some (.bool com) := y3.cell 0
  have r1 : w4.cell? ⟨w.heap.size + 1, 1, none⟩ = some (.bool sec) := y3.cell 1
  have r2 : w4.cell? ⟨w.heap.size + 1, 2, none⟩ = some (.int .i64 ap) := y3.cell 2
  have r3 : w4.cell? ⟨w.heap.size + 1, 3, none⟩ = some (.int .i64 1) := y3.cell 3
  have r4 : w4.cell? ⟨w.heap.size + 1, 4, none⟩ = some (.int .i64 ct) := y3.cell 4
  have r5 : w4.cell? ⟨w.heap.size + 1, 5, none⟩ = some (.slice a m k) := y3.cell 5
  obtain ⟨W5, hW5⟩ : ∃ W5, W5 = (w4.alloc (.cells #[.int .i64 M, .bool false, .int .i64 0, .int .i64 0, .slice none 0 0] 35)) := ⟨_, rfl⟩
  rw [← hW5] at z2 z3 z4 z8 b7
  have hz4 : w.heap.size < w4.heap.size := y2.lt
  have hz44 : w.heap.size + 1 < w4.heap.size := y3.lt
  have hz5 : w.heap.size + 1 + 1 < w4.heap.size := y4.lt
  go_upto_region 4 with fail
  rw [← hW5]
  clear hW5 y2 y3 y4 p0 p1 p2 p3 p4 r0 r1 r2 r3 r4 r5
  have p0 : W5.cell? ⟨w.heap.size, 0, none⟩ = some (.int .i64 M) := z2.cell 0
  have p1 : W5.cell? ⟨w.heap.size, 1, none⟩ = some (.bool bu) := z2.cell 1
  have p2 : W5.cell? ⟨w.heap.size, 2, none⟩ = some (.int .i64 jap) := z2.cell 2
  have p3 : W5.cell? ⟨w.heap.size, 3, none⟩ = some (.int .i64 jct) := z2.cell 3
  have p4 : W5.cell? ⟨w.heap.size, 4, none⟩ = some (.slice A n c) := z2.cell 4
  have pf0 := z2.free 0
  have pf1 := z2.free 1
  have pf2 := z2.free 2
  have pf3 := z2.free 3
  have pf4 := z2.free 4
  have r0 : W5.cell? ⟨w.heap.size + 1, 0, none⟩ = some (.bool com) := z3.cell 0
  have r1 : W5.cell? ⟨w.heap.size + 1, 1, none⟩ = some (.bool sec) := z3.cell 1
  have r2 : W5.cell? ⟨w.heap.size + 1, 2, none⟩ = some (.int .i64 ap) := z3.cell 2
  have r3 : W5.cell? ⟨w.heap.size + 1, 3, none⟩ = some (.int .i64 1) := z3.cell 3
  have r4 : W5.cell? ⟨w.heap.size + 1, 4, none⟩ = some (.int .i64 ct) := z3.cell 4
  have r5 : W5.cell? ⟨w.heap.size + 1, 5, none⟩ = some (.slice a m k) := z3.cell 5
  have j0 : W5.cell? ⟨w4.heap.size, 0, none⟩ = some (.int .i64 M) := z8.cell 0
  have j1 : W5.cell? ⟨w4.heap.size, 1, none⟩ = some (.bool false) := z8.cell 1
  have j2 : W5.cell? ⟨w4.heap.size, 2, none⟩ = some (.int .i64 0) := z8.cell 2
  have j3 : W5.cell? ⟨w4.heap.size, 3, none⟩ = some (.int .i64 0) := z8.cell 3
  have j4 : W5.cell? ⟨w4.heap.size, 4, none⟩ = some (.slice none 0 0) := z8.cell 4
  have x2 := Cel.put5 z2 (.int .i64 M) (.bool false) (.int .i64 0) (.int .i64 0) (.slice none 0 0)
  have o6 := only5 W5 (w.heap.size) (.int .i64 M) (.bool false) (.int .i64 0) (.int .i64 0) (.slice none 0 0)
  have x3 := z3.only o6 (by simp)
  have x4 := z4.only o6 (by simp; omega)
  have x8 := z8.only o6 (by simp; omega)
  have b8 := b7.trans (o6.below b7.size (fun x hx => by obtain rfl := List.mem_singleton.1 hx; omega))
  obtain ⟨W6, hW6⟩ : ∃ W6, W6 = (((((W5.setCell ⟨w.heap.size, 0, none⟩ (.int .i64 M)).setCell ⟨w.heap.size, 1, none⟩ (.bool false)).setCell ⟨w.heap.size, 2, none⟩ (.int .i64 0)).setCell ⟨w.heap.size, 3, none⟩ (.int .i64 0)).setCell ⟨w.heap.size, 4, none⟩ (.slice none 0 0)) := ⟨_, rfl⟩
  rw [← hW6] at x2 x3 x4 x8 b8 o6
  go_upto_region 8 with fail
  rw [← hW6]
  clear hW6 z2 z3 z8 z4 b7 o6 p0 p1 p2 p3 p4 pf0 pf1 pf2 pf3 pf4 r0 r1 r2 r3 r4 r5 j0 j1 j2 j3 j4
  have p0 : W6.cell? ⟨w.heap.size, 0, none⟩ = some (.int .i64 M) := x2.cell 0
  have p1 : W6.cell? ⟨w.heap.size, 1, none⟩ = some (.bool false) := x2.cell 1
  have p2 : W6.cell? ⟨w.heap.size, 2, none⟩ = some (.int .i64 0) := x2.cell 2
  have p3 : W6.cell? ⟨w.heap.size, 3, none⟩ = some (.int .i64 0) := x2.cell 3
  have p4 : W6.cell? ⟨w.heap.size, 4, none⟩ = some (.slice none 0 0) := x2.cell 4
  have r0 : W6.cell? ⟨w.heap.size + 1, 0, none⟩ = some (.bool com) := x3.cell 0
  have r1 : W6.cell? ⟨w.heap.size + 1, 1, none⟩ = some (.bool sec) := x3.cell 1
  have r2 : W6.cell? ⟨w.heap.size + 1, 2, none⟩ = some (.int .i64 ap) := x3.cell 2
  have r3 : W6.cell? ⟨w.heap.size + 1, 3, none⟩ = some (.int .i64 1) := x3.cell 3
  have r4 : W6.cell? ⟨w.heap.size + 1, 4, none⟩ = some (.int .i64 ct) := x3.cell 4
  have r5 : W6.cell? ⟨w.heap.size + 1, 5, none⟩ = some (.slice a m k) := x3.cell 5
  have j0 : W6.cell? ⟨w4.heap.size, 0, none⟩ = some (.int .i64 M) := x8.cell 0
  have j1 : W6.cell? ⟨w4.heap.size, 1, none⟩ = some (.bool false) := x8.cell 1
  have j2 : W6.cell? ⟨w4.heap.size, 2, none⟩ = some (.int .i64 0) := x8.cell 2
  have j3 : W6.cell? ⟨w4.heap.size, 3, none⟩ = some (.int .i64 0) := x8.cell 3
  have j4 : W6.cell? ⟨w4.heap.size, 4, none⟩ = some (.slice none 0 0) := x8.cell 4
  go_upto_region 10 with fail
  refine wp_region_held_drew (S := (fun w' => w'.cell? ⟨w.heap.size, 4, none⟩ = some (.slice none 0 0) ∧ w'.cell? ⟨w.heap.size + 1, 5, none⟩ = some (.slice a m k))) (by kernel_rfl) (⟨p4, r5⟩) (fun hHeld => ?_)
  refine wpAnyH_here 1 (v := ?_) rfl (by kernel_rfl) (by kernel_rfl) (by kernel_rfl) (fun _ _ _ h => h) (Or.inl ⟨by rfl, ?_⟩) hHeld ?_
  rotate_left
  · intro w hSw; (try dsimp only at hSw); go_simp; all_goals (with_reducible rfl)
  try simp only [Act.put, List.setIfInBounds_toArray, List.set_cons_zero, List.set_cons_succ]
  refine wpAnyH_here 2 (v := ?_) rfl (by kernel_rfl) (by kernel_rfl) (by kernel_rfl) (fun _ _ _ h => h) (Or.inl ⟨by rfl, ?_⟩) hHeld ?_
  rotate_left
  · intro w hSw; (try dsimp only at hSw); go_simp; all_goals (with_reducible rfl)
  try simp only [Act.put, List.setIfInBounds_toArray, List.set_cons_zero, List.set_cons_succ]
  refine wpAnyH_here 4 (v := ?_) rfl (by kernel_rfl) (by kernel_rfl) (by kernel_rfl) (fun _ _ _ h => h) (Or.inl ⟨by rfl, ?_⟩) hHeld ?_
  rotate_left
  · intro w hSw; (try dsimp only at hSw); go_simp; all_goals (with_reducible rfl)
  try simp only [Act.put, List.setIfInBounds_toArray, List.set_cons_zero, List.set_cons_succ]
  refine wpAnyH_here 5 (v := ?_) rfl (by kernel_rfl) (by kernel_rfl) (by kernel_rfl) (fun _ _ _ h => h) (Or.inl ⟨by rfl, ?_⟩) hHeld ?_
  rotate_left
  · intro w hSw; (try dsimp only at hSw); go_simp; all_goals (with_reducible rfl)
  try simp only [Act.put, List.setIfInBounds_toArray, List.set_cons_zero, List.set_cons_succ]
  refine wpAnyH_alone 0 rfl (by kernel_rfl) (fun K hK => ?_)
  go_simp
  skip
  refine hK.out _ _ (⟨Lib.cell?_alloc_some _ p4, Lib.cell?_alloc_some _ r5⟩) (fun hHeld => ?_)
  clear hK K
  try simp only [Act.put, List.setIfInBounds_toArray, List.set_cons_zero, List.set_cons_succ]
  have bb1 : Below W6.heap.size W6 (W6.alloc (.cells #[] 5)).drew := (bel_new W6 (.cells #[] 5)).trans ⟨rfl, rfl, rfl, Nat.le_refl _, fun _ _ => rfl⟩
  have oo1 := (Ow_empty W6 W6.heap.size 5 (Nat.le_refl _)).drew
  have bw1 := b8.trans (bb1.mono b8.size)
  refine wpAnyH_alone 3 rfl (by kernel_rfl) (fun K' hK' => ?_)
  refine step_app _ is_bytes rfl (.tmp 73) (.tmp 75) rfl (m := []) rfl oo1 (l := []) (A := none) (c := 0) (rfl) (Bs.nil_ (B := 0)) (fun _ => rfl) (by simp) bb1.size ?_
  intro v2 W11 oo2 hgr2
  rw [List.nil_append] at oo2
  have bb2 := bb1.grown hgr2 bb1.size (fun i hi => oo1.base_le i hi)
  have bw2 := b8.trans (bb2.mono b8.size)
  refine hK'.out _ _ (⟨(bb2.cell (p := ⟨w.heap.size, 4, none⟩) x2.lt).trans p4, (bb2.cell (p := ⟨w.heap.size + 1, 5, none⟩) x3.lt).trans r5⟩) (fun hHeld => ?_)
  clear hK' K'
  try simp only [Act.put, List.setIfInBounds_toArray, List.set_cons_zero, List.set_cons_succ]
  refine wpAnyH_alone 6 rfl (by kernel_rfl) (fun K' hK' => ?_)
  refine step_app _ is_bytes rfl (.tmp 76) (.tmp 78) rfl (m := []) rfl oo2 (l := d) (A := a) (c := k) (by rw [hd.out]; rfl) (hAa.below bw2) han (by simp only [List.length_nil]; rw [hd.out]; omega) bb2.size ?_
  intro v3 W12 oo3 hgr3
  obtain ⟨q1, q2, rfl, _⟩ := oo3.reads_len (n := m) (by simp [hd.out])
  have bb3 := bb2.grown hgr3 bb2.size (fun i hi => oo2.base_le i hi)
  have bw3 := b8.trans (bb3.mono b8.size)
  refine hK'.out _ _ (⟨(bb3.cell (p := ⟨w.heap.size, 4, none⟩) x2.lt).trans p4, (bb3.cell (p := ⟨w.heap.size + 1, 5, none⟩) x3.lt).trans r5⟩) (fun hHeld => ?_)
  clear hK' K'
  try simp only [Act.put, List.setIfInBounds_toArray, List.set_cons_zero, List.set_cons_succ]
  refine wpAnyH_here 7 (v := ?_) rfl (by kernel_rfl) (by kernel_rfl) (by kernel_rfl) (fun _ _ _ h => h) (Or.inl ⟨by rfl, ?_⟩) hHeld ?_
  rotate_left
  · intro w hSw; (try dsimp only at hSw); go_simp; all_goals (with_reducible rfl)
  try simp only [Act.put, List.setIfInBounds_toArray, List.set_cons_zero, List.set_cons_succ]
  refine wpAnyH_done (by kernel_rfl) ?_ _
  clear hHeld p0 p1 p2 p3 p4 r0 r1 r2 r3 r4 r5 j0 j1 j2 j3 j4
  have l2 := Cel.later x2 bb3
  have l3 := Cel.later x3 bb3
  have l4 := Cel.later x4 bb3
  have l8 := Cel.later x8 bb3
  have p0 : W12.cell? ⟨w.heap.size, 0, none⟩ = some (.int .i64 M) := l2.cell 0
  have p1 : W12.cell? ⟨w.heap.size, 1, none⟩ = some (.bool false) := l2.cell 1
  have p2 : W12.cell? ⟨w.heap.size, 2, none⟩ = some (.int .i64 0) := l2.cell 2
  have p3 : W12.cell? ⟨w.heap.size, 3, none⟩ = some (.int .i64 0) := l2.cell 3
  have p4 : W12.cell? ⟨w.heap.size, 4, none⟩ = some (.slice none 0 0) := l2.cell 4
  have r0 : W12.cell? ⟨w.heap.size + 1, 0, none⟩ = some (.bool com) := l3.cell 0
  have r1 : W12.cell? ⟨w.heap.size + 1, 1, none⟩ = some (.bool sec) := l3.cell 1
  have r2 : W12.cell? ⟨w.heap.size + 1, 2, none⟩ = some (.int .i64 ap) := l3.cell 2
  have r3 : W12.cell? ⟨w.heap.size + 1, 3, none⟩ = some (.int .i64 1) := l3.cell 3
  have r4 : W12.cell? ⟨w.heap.size + 1, 4, none⟩ = some (.int .i64 ct) := l3.cell 4
  have r5 : W12.cell? ⟨w.heap.size + 1, 5, none⟩ = some (.slice a m k) := l3.cell 5
  have j0 : W12.cell? ⟨w4.heap.size, 0, none⟩ = some (.int .i64 M) := l8.cell 0
  have j1 : W12.cell? ⟨w4.heap.size, 1, none⟩ = some (.bool false) := l8.cell 1
  have j2 : W12.cell? ⟨w4.heap.size, 2, none⟩ = some (.int .i64 0) := l8.cell 2
  have j3 : W12.cell? ⟨w4.heap.size, 3, none⟩ = some (.int .i64 0) := l8.cell 3
  have j4 : W12.cell? ⟨w4.heap.size, 4, none⟩ = some (.slice none 0 0) := l8.cell 4
  have q0 : W12.cell? ⟨w.heap.size + 1 + 1, 0, none⟩ = some (.int .i64 0) := l4.cell 0
  have q1 : W12.cell? ⟨w.heap.size + 1 + 1, 1, none⟩ = some (.bool false) := l4.cell 1
  have q2 : W12.cell? ⟨w.heap.size + 1 + 1, 2, none⟩ = some (.int .i64 0) := l4.cell 2
  have q3 : W12.cell? ⟨w.heap.size + 1 + 1, 3, none⟩ = some (.int .i64 0) := l4.cell 3
  have q4 : W12.cell? ⟨w.heap.size + 1 + 1, 4, none⟩ = some (.slice none 0 0) := l4.cell 4
  have qf0 := l4.free 0
  have qf1 := l4.free 1
  have qf2 := l4.free 2
  have qf3 := l4.free 3
  have qf4 := l4.free 4
  go_wp2
  exact bodyPost_ret (take_results rfl rfl rfl rfl (Cel.put5 l4 _ _ _ _ _)) rfl ⟨_, _, rfl, (oo3.more b8.size).only (only5 _ (w.heap.size + 1 + 1) _ _ _ _ _) (fun i hi hm => oo3.apart l4 (by decide) (by rw [hi, List.mem_singleton.1 hm])), bw3.trans ((only5 _ (w.heap.size + 1 + 1) _ _ _ _ _).below bw3.size (fun x hx => by obtain rfl := List.mem_singleton.1 hx; omega))⟩

set_option maxHeartbeats 4000000 in
theorem xtake_new_done (M : Int) (bu : Bool) (jap jct : Int) (A : Option Addr) (n c : Nat) (com sec : Bool) (ap ct : Int) (a : Option Addr) (m k : Nat) (w : World) (d : List Byte) (hd : Hid (d.length = m)) (hAa : Bs w w.heap.size a d) (han : a = none → k = 0) (hm9 : m ≤ 1000000) (h : rng ap 0 ct = true) (hm : 0 < m) (hl : ¬ M < (m : Int)) :
    Calls Try.prog 17 #[.agg (jv M bu jap jct (.slice A n c)), .agg #[.bool com, .bool sec, .int .i64 ap, .int .i64 3, .int .i64 ct, .slice a m k]] w fun e w' => ∃ v, e = .returned (.tuple #[.agg (jv M false 0 0 (.slice none 0 0)), v, .bool true, .int .i64 0]) ∧ Ow w' w.heap.size 5 v d ∧ Below w.heap.size w w' := by
  obtain ⟨w3, hw3⟩ : ∃ w3, w3 = ((w.alloc (.cells (jv M bu jap jct (.slice A n c)) 35)).alloc (.cells #[.bool com, .bool sec, .int .i64 ap, .int .i64 3, .int .i64 ct, .slice a m k] 24)).alloc (.cells (jv 0 false 0 0 (.slice none 0 0)) 35) := ⟨_, rfl⟩
  obtain ⟨x2, x3, x4, b3, hs3⟩ := pre3 w w3 _ _ _ hw3
  have hh := xheader_any com sec ap 3 ct (.slice a m k) w3
  rw [h] at hh
  unfold jv at hw3 ⊢
  have t1 : ((m : Int) == 0) = false := by simp; omega
  have t2 : (m == 0) = false := by simp; omega
  have s1 : decide (M < (m : Int)) = false := by simpa using hl
  clear h hm hl
  go_enter Try.func17, Try.ntmps17
  go_wp2_with fail
  rw [← hw3]
  refine hh.mono ?_
  rintro e w4 ⟨rfl, b4⟩
  have y2 := Cel.later x2 b4
  have y3 := Cel.later x3 b4
  have y4 := Cel.later x4 b4
  have b5 := b3.trans (b4.mono b3.size)
  clear x2 x3 x4 b3 hh hw3
  have z2 := Cel.later y2 (bel_new w4 (.cells #[.int .i64 M, .bool false, .int .i64 0, .int .i64 0, .slice none 0 0] 35))
  have z3 := Cel.later y3 (bel_new w4 (.cells #[.int .i64 M, .bool false, .int .i64 0, .int .i64 0, .slice none 0 0] 35))
  have z4 := Cel.later y4 (bel_new w4 (.cells #[.int .i64 M, .bool false, .int .i64 0, .int .i64 0, .slice none 0 0] 35))
  have z8 := Cel.new w4 35 #[.int .i64 M, .bool false, .int .i64 0, .int .i64 0, .slice none 0 0]
  have b7 := b5.trans ((bel_new w4 (.cells #[.int .i64 M, .bool false, .int .i64 0, .int .i64 0, .slice none 0 0] 35)).mono b5.size)
  have p0 : w4.cell? ⟨w.heap.size, 0, none⟩ = some (.int .i64 M) := y2.cell 0
  have p1 : w4.cell? ⟨w.heap.size, 1, none⟩ = some (.bool bu) := y2.cell 1
  have p2 : w4.cell? ⟨w.heap.size, 2, none⟩ = some (.int .i64 jap) := y2.cell 2
  have p3 : w4.cell? ⟨w.heap.size, 3, none⟩ = some (.int .i64 jct) := y2.cell 3
  have p4 : w4.cell? ⟨w.heap.size, 4, none⟩ = some (.slice A n c) := y2.cell 4
  have r0 : w4.cell? ⟨w.heap.size + 1, 0, none⟩ = some (.bool com) := y3.cell 0
  have r1 : w4.cell? ⟨w.heap.size + 1, 1, none⟩ = some (.bool sec) := y3.cell 1
  have r2 : w4.cell? ⟨w.heap.size + 1, 2, none⟩ = some (.int .i64 ap) := y3.cell 2
  have r3 : w4.cell? ⟨w.heap.size + 1, 3, none⟩ = some (.int .i64 3) := y3.cell 3
  have r4 : w4.cell? ⟨w.heap.size + 1, 4, none⟩ = some (.int .i64 ct) := y3.cell 4
  have r5 : w4.cell? ⟨w.heap.size + 1, 5, none⟩ = some (.slice a m k) := y3.cell 5
  obtain ⟨W5, hW5⟩ : ∃ W5, W5 = (w4.alloc (.cells #[.int .i64 M, .bool false, .int .i64 0, .int .i64 0, .slice none 0 0] 35)) := ⟨_, rfl⟩
  rw [← hW5] at z2 z3 z4 z8 b7
  have hz4 : w.heap.size < w4.heap.size := y2.lt
  have hz44 : w.heap.size + 1 < w4.heap.size := y3.lt
  have hz5 : w.heap.size + 1 + 1 < w4.heap.size := y4.lt
  go_upto_region 4 with fail
  rw [← hW5]
  clear hW5 y2 y3 y4 p0 p1 p2 p3 p4 r0 r1 r2 r3 r4 r5
  have p0 : W5.cell? ⟨w.heap.size, 0, none⟩ = some (.int .i64 M) := z2.cell 0
  have p1 : W5.cell? ⟨w.heap.size, 1, none⟩ = some (.bool bu) := z2.cell 1
  have p2 : W5.cell? ⟨w.heap.size, 2, none⟩ = some (.int .i64 jap) := z2.cell 2
  have p3 : W5.cell? ⟨w.heap.size, 3, none⟩ = some (.int .i64 jct) := z2.cell 3
  have p4 : W5.cell? ⟨w.heap.size, 4, none⟩ = some (.slice A n c) := z2.cell 4
  have pf0 := z2.free 0
  have pf1 := z2.free 1
  have pf2 := z2.free 2
  have pf3 := z2.free 3
  have pf4 := z2.free 4
  have r0 : W5.cell? ⟨w.heap.size + 1, 0, none⟩ = some (.bool com) := z3.cell 0
  have r1 : W5.cell? ⟨w.heap.size + 1, 1, none⟩ = some (.bool sec) := z3.cell 1
  have r2 : W5.cell? ⟨w.heap.size + 1, 2, none⟩ = some (.int .i64 ap) := z3.cell 2
  have r3 : W5.cell? ⟨w.heap.size + 1, 3, none⟩ = some (.int .i64 3) := z3.cell 3
  have r4 : W5.cell? ⟨w.heap.size + 1, 4, none⟩ = some (.int .i64 ct) := z3.cell 4
  have r5 : W5.cell? ⟨w.heap.size + 1, 5, none⟩ = some (.slice a m k) := z3.cell 5
  have j0 : W5.cell? ⟨w4.heap.size, 0, none⟩ = some (.int .i64 M) := z8.cell 0
  have j1 : W5.cell? ⟨w4.heap.size, 1, none⟩ = some (.bool false) := z8.cell 1
  have j2 : W5.cell? ⟨w4.heap.size, 2, none⟩ = some (.int .i64 0) := z8.cell 2
  have j3 : W5.cell? ⟨w4.heap.size, 3, none⟩ = some (.int .i64 0) := z8.cell 3
  have j4 : W5.cell? ⟨w4.heap.size, 4, none⟩ = some (.slice none 0 0) := z8.cell 4
  have x2 := Cel.put5 z2 (.int .i64 M) (.bool false) (.int .i64 0) (.int .i64 0) (.slice none 0 0)
  have o6 := only5 W5 (w.heap.size) (.int .i64 M) (.bool false) (.int .i64 0) (.int .i64 0) (.slice none 0 0)
  have x3 := z3.only o6 (by simp)
  have x4 := z4.only o6 (by simp; omega)
  have x8 := z8.only o6 (by simp; omega)
  have b8 := b7.trans (o6.below b7.size (fun x hx => by obtain rfl := List.mem_singleton.1 hx; omega))
  obtain ⟨W6, hW6⟩ : ∃ W6, W6 = (((((W5.setCell ⟨w.heap.size, 0, none⟩ (.int .i64 M)).setCell ⟨w.heap.size, 1, none⟩ (.bool false)).setCell ⟨w.heap.size, 2, none⟩ (.int .i64 0)).setCell ⟨w.heap.size, 3, none⟩ (.int .i64 0)).setCell ⟨w.heap.size, 4, none⟩ (.slice none 0 0)) := ⟨_, rfl⟩
  rw [← hW6] at x2 x3 x4 x8 b8 o6
  go_upto_region 8 with fail
  rw [← hW6]
  clear hW6 z2 z3 z8 z4 b7 o6 p0 p1 p2 p3 p4 pf0 pf1 pf2 pf3 pf4 r0 r1 r2 r3 r4 r5 j0 j1 j2 j3 j4
  have p0 : W6.cell? ⟨w.heap.size, 0, none⟩ = some (.int .i64 M) := x2.cell 0
  have p1 : W6.cell? ⟨w.heap.size, 1, none⟩ = some (.bool false) := x2.cell 1
  have p2 : W6.cell? ⟨w.heap.size, 2, none⟩ = some (.int .i64 0) := x2.cell 2
  have p3 : W6.cell? ⟨w.heap.size, 3, none⟩ = some (.int .i64 0) := x2.cell 3
  have p4 : W6.cell? ⟨w.heap.size, 4, none⟩ = some (.slice none 0 0) := x2.cell 4
  have r0 : W6.cell? ⟨w.heap.size + 1, 0, none⟩ = some (.bool com) := x3.cell 0
  have r1 : W6.cell? ⟨w.heap.size + 1, 1, none⟩ = some (.bool sec) := x3.cell 1
  have r2 : W6.cell? ⟨w.heap.size + 1, 2, none⟩ = some (.int .i64 ap) := x3.cell 2
  have r3 : W6.cell? ⟨w.heap.size + 1, 3, none⟩ = some (.int .i64 3) := x3.cell 3
  have r4 : W6.cell? ⟨w.heap.size + 1, 4, none⟩ = some (.int .i64 ct) := x3.cell 4
  have r5 : W6.cell? ⟨w.heap.size + 1, 5, none⟩ = some (.slice a m k) := x3.cell 5
  have j0 : W6.cell? ⟨w4.heap.size, 0, none⟩ = some (.int .i64 M) := x8.cell 0
  have j1 : W6.cell? ⟨w4.heap.size, 1, none⟩ = some (.bool false) := x8.cell 1
  have j2 : W6.cell? ⟨w4.heap.size, 2, none⟩ = some (.int .i64 0) := x8.cell 2
  have j3 : W6.cell? ⟨w4.heap.size, 3, none⟩ = some (.int .i64 0) := x8.cell 3
  have j4 : W6.cell? ⟨w4.heap.size, 4, none⟩ = some (.slice none 0 0) := x8.cell 4
  go_upto_region 10 with fail
  refine wp_region_held_drew (S := (fun w' => w'.cell? ⟨w.heap.size, 4, none⟩ = some (.slice none 0 0) ∧ w'.cell? ⟨w.heap.size + 1, 5, none⟩ = some (.slice a m k))) (by kernel_rfl) (⟨p4, r5⟩) (fun hHeld => ?_)
  refine wpAnyH_here 1 (v := ?_) rfl (by kernel_rfl) (by kernel_rfl) (by kernel_rfl) (fun _ _ _ h => h) (Or.inl ⟨by rfl, ?_⟩) hHeld ?_
  rotate_left
  · intro w hSw; (try dsimp only at hSw); go_simp; all_goals (with_reducible rfl)
  try simp only [Act.put, List.setIfInBounds_toArray, List.set_cons_zero, List.set_cons_succ]
  refine wpAnyH_here 2 (v := ?_) rfl (by kernel_rfl) (by kernel_rfl) (by kernel_rfl) (fun _ _ _ h => h) (Or.inl ⟨by rfl, ?_⟩) hHeld ?_
  rotate_left
  · intro w hSw; (try dsimp only at hSw); go_simp; all_goals (with_reducible rfl)
  try simp only [Act.put, List.setIfInBounds_toArray, List.set_cons_zero, List.set_cons_succ]
  refine wpAnyH_here 4 (v := ?_) rfl (by kernel_rfl) (by kernel_rfl) (by kernel_rfl) (fun _ _ _ h => h) (Or.inl ⟨by rfl, ?_⟩) hHeld ?_
  rotate_left
  · intro w hSw; (try dsimp only at hSw); go_simp; all_goals (with_reducible rfl)
  try simp only [Act.put, List.setIfInBounds_toArray, List.set_cons_zero, List.set_cons_succ]
  refine wpAnyH_here 5 (v := ?_) rfl (by kernel_rfl) (by kernel_rfl) (by kernel_rfl) (fun _ _ _ h => h) (Or.inl ⟨by rfl, ?_⟩) hHeld ?_
  rotate_left
  · intro w hSw; (try dsimp only at hSw); go_simp; all_goals (with_reducible rfl)
  try simp only [Act.put, List.setIfInBounds_toArray, List.set_cons_zero, List.set_cons_succ]
  refine wpAnyH_alone 0 rfl (by kernel_rfl) (fun K hK => ?_)
  go_simp
  skip
  refine hK.out _ _ (⟨Lib.cell?_alloc_some _ p4, Lib.cell?_alloc_some _ r5⟩) (fun hHeld => ?_)
  clear hK K
  try simp only [Act.put, List.setIfInBounds_toArray, List.set_cons_zero, List.set_cons_succ]
  have bb1 : Below W6.heap.size W6 (W6.alloc (.cells #[] 5)).drew := (bel_new W6 (.cells #[] 5)).trans ⟨rfl, rfl, rfl, Nat.le_refl _, fun _ _ => rfl⟩
  have oo1 := (Ow_empty W6 W6.heap.size 5 (Nat.le_refl _)).drew
  have bw1 := b8.trans (bb1.mono b8.size)
  refine wpAnyH_alone 3 rfl (by kernel_rfl) (fun K' hK' => ?_)
  refine step_app _ is_bytes rfl (.tmp 73) (.tmp 75) rfl (m := []) rfl oo1 (l := []) (A := none) (c := 0) (rfl) (Bs.nil_ (B := 0)) (fun _ => rfl) (by simp) bb1.size ?_
  intro v2 W11 oo2 hgr2
  rw [List.nil_append] at oo2
  have bb2 := bb1.grown hgr2 bb1.size (fun i hi => oo1.base_le i hi)
  have bw2 := b8.trans (bb2.mono b8.size)
  refine hK'.out _ _ (⟨(bb2.cell (p := ⟨w.heap.size, 4, none⟩) x2.lt).trans p4, (bb2.cell (p := ⟨w.heap.size + 1, 5, none⟩) x3.lt).trans r5⟩) (fun hHeld => ?_)
  clear hK' K'
  try simp only [Act.put, List.setIfInBounds_toArray, List.set_cons_zero, List.set_cons_succ]
  refine wpAnyH_alone 6 rfl (by kernel_rfl) (fun K' hK' => ?_)
  refine step_app _ is_bytes rfl (.tmp 76) (.tmp 78) rfl (m := []) rfl oo2 (l := d) (A := a) (c := k) (by rw [hd.out]; rfl) (hAa.below bw2) han (by simp only [List.length_nil]; rw [hd.out]; omega) bb2.size ?_
  intro v3 W12 oo3 hgr3
  obtain ⟨q1, q2, rfl, _⟩ := oo3.reads_len (n := m) (by simp [hd.out])
  have bb3 := bb2.grown hgr3 bb2.size (fun i hi => oo2.base_le i hi)
  have bw3 := b8.trans (bb3.mono b8.size)
  refine hK'.out _ _ (⟨(bb3.cell (p := ⟨w.heap.size, 4, none⟩) x2.lt).trans p4, (bb3.cell (p := ⟨w.heap.size + 1, 5, none⟩) x3.lt).trans r5⟩) (fun hHeld => ?_)
  clear hK' K'
  try simp only [Act.put, List.setIfInBounds_toArray, List.set_cons_zero, List.set_cons_succ]
  refine wpAnyH_here 7 (v := ?_) rfl (by kernel_rfl) (by kernel_rfl) (by kernel_rfl) (fun _ _ _ h => h) (Or.inl ⟨by rfl, ?_⟩) hHeld ?_
  rotate_left
  · intro w hSw; (try dsimp only at hSw); go_simp; all_goals (with_reducible rfl)
  try simp only [Act.put, List.setIfInBounds_toArray, List.set_cons_zero, List.set_cons_succ]
  refine wpAnyH_done (by kernel_rfl) ?_ _
  clear hHeld p0 p1 p2 p3 p4 r0 r1 r2 r3 r4 r5 j0 j1 j2 j3 j4
  have l2 := Cel.later x2 bb3
  have l3 := Cel.later x3 bb3
  have l4 := Cel.later x4 bb3
  have l8 := Cel.later x8 bb3
  have p0 : W12.cell? ⟨w.heap.size, 0, none⟩ = some (.int .i64 M) := l2.cell 0
  have p1 : W12.cell? ⟨w.heap.size, 1, none⟩ = some (.bool false) := l2.cell 1
  have p2 : W12.cell? ⟨w.heap.size, 2, none⟩ = some (.int .i64 0) := l2.cell 2
  have p3 : W12.cell? ⟨w.heap.size, 3, none⟩ = some (.int .i64 0) := l2.cell 3
  have p4 : W12.cell? ⟨w.heap.size, 4, none⟩ = some (.slice none 0 0) := l2.cell 4
  have r0 : W12.cell? ⟨w.heap.size + 1, 0, none⟩ = some (.bool com) := l3.cell 0
  have r1 : W12.cell? ⟨w.heap.size + 1, 1, none⟩ = some (.bool sec) := l3.cell 1
  have r2 : W12.cell? ⟨w.heap.size + 1, 2, none⟩ = some (.int .i64 ap) := l3.cell 2
  have r3 : W12.cell? ⟨w.heap.size + 1, 3, none⟩ = some (.int .i64 3) := l3.cell 3
  have r4 : W12.cell? ⟨w.heap.size + 1, 4, none⟩ = some (.int .i64 ct) := l3.cell 4
  have r5 : W12.cell? ⟨w.heap.size + 1, 5, none⟩ = some (.slice a m k) := l3.cell 5
  have j0 : W12.cell? ⟨w4.heap.size, 0, none⟩ = some (.int .i64 M) := l8.cell 0
  have j1 : W12.cell? ⟨w4.heap.size, 1, none⟩ = some (.bool false) := l8.cell 1
  have j2 : W12.cell? ⟨w4.heap.size, 2, none⟩ = some (.int .i64 0) := l8.cell 2
  have j3 : W12.cell? ⟨w4.heap.size, 3, none⟩ = some (.int .i64 0) := l8.cell 3
  have j4 : W12.cell? ⟨w4.heap.size, 4, none⟩ = some (.slice none 0 0) := l8.cell 4
  have q0 : W12.cell? ⟨w.heap.size + 1 + 1, 0, none⟩ = some (.int .i64 0) := l4.cell 0
  have q1 : W12.cell? ⟨w.heap.size + 1 + 1, 1, none⟩ = some (.bool false) := l4.cell 1
  have q2 : W12.cell? ⟨w.heap.size + 1 + 1, 2, none⟩ = some (.int .i64 0) := l4.cell 2
  have q3 : W12.cell? ⟨w.heap.size + 1 + 1, 3, none⟩ = some (.int .i64 0) := l4.cell 3
  have q4 : W12.cell? ⟨w.heap.size + 1 + 1, 4, none⟩ = some (.slice none 0 0) := l4.cell 4
  have qf0 := l4.free 0
  have qf1 := l4.free 1
  have qf2 := l4.free 2
  have qf3 := l4.free 3
  have qf4 := l4.free 4
  go_wp2
  exact bodyPost_ret (take_results rfl rfl rfl rfl (Cel.put5 l4 _ _ _ _ _)) rfl ⟨_, rfl, (oo3.more b8.size).only (only5 _ (w.heap.size + 1 + 1) _ _ _ _ _) (fun i hi hm => oo3.apart l4 (by decide) (by rw [hi, List.mem_singleton.1 hm])), bw3.trans ((only5 _ (w.heap.size + 1 + 1) _ _ _ _ _).below bw3.size (fun x hx => by obtain rfl := List.mem_singleton.1 hx; omega))⟩
end Go.Proofs.Ytfjmlgclgmcjcaa.Par
