/-
  The walk of the reference's Take (layer 11), where a message is too long.
-/
import Derived.Test.YtfjmlgclgmcjcaaRef11b
import Derived.Deep.Cut
namespace Go.Proofs.Ytfjmlgclgmcjcaa.Par
open Go.RowKit Go.Proofs.Ytfjmlgclgmcjcaa.Row
open Pac (Pk bel_new Cel.later Cel.within)

set_option maxHeartbeats 4000000 in
theorem xtake_cont_long (M : Int) (bu : Bool) (jap jct : Int) (A : Option Addr) (n c : Nat) (com sec : Bool) (ap fl ct : Int) (a : Option Addr) (m k : Nat) (w : World) (h : rng ap 0 ct = true) (hf : fl = 0 ∨ fl = 2) (hm : 0 < m) (hj : 0 ≤ jct ∧ jct ≤ 16383) (hb : bu = true) (ha : ap = jap) (hc : ct = (jct + 1) % 16384) (hn : n ≤ 1000000) (hm9 : m ≤ 1000000) (hl : M < (n : Int) + (m : Int)) :
    Calls Try.prog 17 #[.agg (jv M bu jap jct (.slice A n c)), .agg #[.bool com, .bool sec, .int .i64 ap, .int .i64 fl, .int .i64 ct, .slice a m k]] w fun e w' => e = .returned (.tuple #[.agg (jv M false 0 0 (.slice none 0 0)), .slice none 0 0, .bool false, .int .i64 6]) ∧ Below w.heap.size w w' := by
  obtain ⟨j0, j1⟩ := hj
  subst hb ha hc
  obtain ⟨N, hN⟩ : ∃ N, (jct + 1) % 16384 = N := ⟨_, rfl⟩
  have n1 : (jct + 1).tmod 16384 = N := by rw [Int.tmod_eq_emod_of_nonneg (by omega)]; exact hN
  simp only [hN] at h ⊢
  clear hN
  have e1 : (ap != ap) = false := by simp
  have e2 : (N != N) = false := by simp
  obtain ⟨w3, hw3⟩ : ∃ w3, w3 = ((w.alloc (.cells (jv M true ap jct (.slice A n c)) 35)).alloc (.cells #[.bool com, .bool sec, .int .i64 ap, .int .i64 fl, .int .i64 N, .slice a m k] 24)).alloc (.cells (jv 0 false 0 0 (.slice none 0 0)) 35) := ⟨_, rfl⟩
  obtain ⟨x2, x3, x4, b3, hs3⟩ := pre3 w w3 _ _ _ hw3
  have hh := xheader_any com sec ap fl N (.slice a m k) w3
  rw [h] at hh
  unfold jv at hw3 ⊢
  have t1 : ((m : Int) == 0) = false := by simp; omega
  have t2 : (m == 0) = false := by simp; omega
  have s1 : decide (M < (n : Int) + (m : Int)) = true := by simpa using hl
  clear h hm hl
  rcases hf with rfl | rfl
  all_goals
    go_enter Try.func17, Try.ntmps17
    go_wp2_with fail
    rw [← hw3]
    refine hh.mono ?_
    rintro e w4 ⟨rfl, b4⟩
    have y2 := Cel.later x2 b4
    have y3 := Cel.later x3 b4
    have y4 := Cel.later x4 b4
    have b5 := b3.trans (b4.mono b3.size)
    clear x2 x3 x4 b3 hh hw3
    have z2 := Cel.later y2 (bel_new w4 (.cells #[.int .i64 M, .bool false, .int .i64 0, .int .i64 0, .slice none 0 0] 35))
    have z3 := Cel.later y3 (bel_new w4 (.cells #[.int .i64 M, .bool false, .int .i64 0, .int .i64 0, .slice none 0 0] 35))
    have z4 := Cel.later y4 (bel_new w4 (.cells #[.int .i64 M, .bool false, .int .i64 0, .int .i64 0, .slice none 0 0] 35))
    have z8 := Cel.new w4 35 #[.int .i64 M, .bool false, .int .i64 0, .int .i64 0, .slice none 0 0]
    have b7 := b5.trans ((bel_new w4 (.cells #[.int .i64 M, .bool false, .int .i64 0, .int .i64 0, .slice none 0 0] 35)).mono b5.size)
    have p0 : w4.cell? ⟨w.heap.size, 0, none⟩ = some (.int .i64 M) := y2.cell 0
    have p1 : w4.cell? ⟨w.heap.size, 1, none⟩ = some (.bool true) := y2.cell 1
    have p2 : w4.cell? ⟨w.heap.size, 2, none⟩ = some (.int .i64 ap) := y2.cell 2
    have p3 : w4.cell? ⟨w.heap.size, 3, none⟩ = some (.int .i64 jct) := y2.cell 3
    have p4 : w4.cell? ⟨w.heap.size, 4, none⟩ = some (.slice A n c) := y2.cell 4
    have r0 : w4.cell? ⟨w.heap.size + 1, 0, none⟩ = some (.bool com) := y3.cell 0
    have r1 : w4.cell? ⟨w.heap.size + 1, 1, none⟩ = some (.bool sec) := y3.cell 1
    have r2 : w4.cell? ⟨w.heap.size + 1, 2, none⟩ = some (.int .i64 ap) := y3.cell 2
    have r3 : w4.cell? ⟨w.heap.size + 1, 3, none⟩ = some (.int .i64 _) := y3.cell 3
    have r4 : w4.cell? ⟨w.heap.size + 1, 4, none⟩ = some (.int .i64 N) := y3.cell 4
    have r5 : w4.cell? ⟨w.heap.size + 1, 5, none⟩ = some (.slice a m k) := y3.cell 5
    have u0 : (w4.alloc (.cells #[.int .i64 M, .bool false, .int .i64 0, .int .i64 0, .slice none 0 0] 35)).cell? ⟨w.heap.size, 0, none⟩ = some (.int .i64 M) := z2.cell 0
    have u1 : (w4.alloc (.cells #[.int .i64 M, .bool false, .int .i64 0, .int .i64 0, .slice none 0 0] 35)).cell? ⟨w.heap.size, 1, none⟩ = some (.bool true) := z2.cell 1
    have u2 : (w4.alloc (.cells #[.int .i64 M, .bool false, .int .i64 0, .int .i64 0, .slice none 0 0] 35)).cell? ⟨w.heap.size, 2, none⟩ = some (.int .i64 ap) := z2.cell 2
    have u3 : (w4.alloc (.cells #[.int .i64 M, .bool false, .int .i64 0, .int .i64 0, .slice none 0 0] 35)).cell? ⟨w.heap.size, 3, none⟩ = some (.int .i64 jct) := z2.cell 3
    have u4 : (w4.alloc (.cells #[.int .i64 M, .bool false, .int .i64 0, .int .i64 0, .slice none 0 0] 35)).cell? ⟨w.heap.size, 4, none⟩ = some (.slice A n c) := z2.cell 4
    have uf0 := z2.free 0
    have uf1 := z2.free 1
    have uf2 := z2.free 2
    have uf3 := z2.free 3
    have uf4 := z2.free 4
    have v0 : (w4.alloc (.cells #[.int .i64 M, .bool false, .int .i64 0, .int .i64 0, .slice none 0 0] 35)).cell? ⟨w.heap.size + 1, 0, none⟩ = some (.bool com) := z3.cell 0
    have v1 : (w4.alloc (.cells #[.int .i64 M, .bool false, .int .i64 0, .int .i64 0, .slice none 0 0] 35)).cell? ⟨w.heap.size + 1, 1, none⟩ = some (.bool sec) := z3.cell 1
    have v2 : (w4.alloc (.cells #[.int .i64 M, .bool false, .int .i64 0, .int .i64 0, .slice none 0 0] 35)).cell? ⟨w.heap.size + 1, 2, none⟩ = some (.int .i64 ap) := z3.cell 2
    have v3 : (w4.alloc (.cells #[.int .i64 M, .bool false, .int .i64 0, .int .i64 0, .slice none 0 0] 35)).cell? ⟨w.heap.size + 1, 3, none⟩ = some (.int .i64 _) := z3.cell 3
    have v4 : (w4.alloc (.cells #[.int .i64 M, .bool false, .int .i64 0, .int .i64 0, .slice none 0 0] 35)).cell? ⟨w.heap.size + 1, 4, none⟩ = some (.int .i64 N) := z3.cell 4
    have v5 : (w4.alloc (.cells #[.int .i64 M, .bool false, .int .i64 0, .int .i64 0, .slice none 0 0] 35)).cell? ⟨w.heap.size + 1, 5, none⟩ = some (.slice a m k) := z3.cell 5
    have q0 : (w4.alloc (.cells #[.int .i64 M, .bool false, .int .i64 0, .int .i64 0, .slice none 0 0] 35)).cell? ⟨w.heap.size + 1 + 1, 0, none⟩ = some (.int .i64 0) := z4.cell 0
    have q1 : (w4.alloc (.cells #[.int .i64 M, .bool false, .int .i64 0, .int .i64 0, .slice none 0 0] 35)).cell? ⟨w.heap.size + 1 + 1, 1, none⟩ = some (.bool false) := z4.cell 1
    have q2 : (w4.alloc (.cells #[.int .i64 M, .bool false, .int .i64 0, .int .i64 0, .slice none 0 0] 35)).cell? ⟨w.heap.size + 1 + 1, 2, none⟩ = some (.int .i64 0) := z4.cell 2
    have q3 : (w4.alloc (.cells #[.int .i64 M, .bool false, .int .i64 0, .int .i64 0, .slice none 0 0] 35)).cell? ⟨w.heap.size + 1 + 1, 3, none⟩ = some (.int .i64 0) := z4.cell 3
    have q4 : (w4.alloc (.cells #[.int .i64 M, .bool false, .int .i64 0, .int .i64 0, .slice none 0 0] 35)).cell? ⟨w.heap.size + 1 + 1, 4, none⟩ = some (.slice none 0 0) := z4.cell 4
    have qf0 := z4.free 0
    have qf1 := z4.free 1
    have qf2 := z4.free 2
    have qf3 := z4.free 3
    have qf4 := z4.free 4
    have s0 : (w4.alloc (.cells #[.int .i64 M, .bool false, .int .i64 0, .int .i64 0, .slice none 0 0] 35)).cell? ⟨w4.heap.size, 0, none⟩ = some (.int .i64 M) := z8.cell 0
    have s1 : (w4.alloc (.cells #[.int .i64 M, .bool false, .int .i64 0, .int .i64 0, .slice none 0 0] 35)).cell? ⟨w4.heap.size, 1, none⟩ = some (.bool false) := z8.cell 1
    have s2 : (w4.alloc (.cells #[.int .i64 M, .bool false, .int .i64 0, .int .i64 0, .slice none 0 0] 35)).cell? ⟨w4.heap.size, 2, none⟩ = some (.int .i64 0) := z8.cell 2
    have s3 : (w4.alloc (.cells #[.int .i64 M, .bool false, .int .i64 0, .int .i64 0, .slice none 0 0] 35)).cell? ⟨w4.heap.size, 3, none⟩ = some (.int .i64 0) := z8.cell 3
    have s4 : (w4.alloc (.cells #[.int .i64 M, .bool false, .int .i64 0, .int .i64 0, .slice none 0 0] 35)).cell? ⟨w4.heap.size, 4, none⟩ = some (.slice none 0 0) := z8.cell 4
    clear y2 y3 y4 z2 z3 z8
    go_wp2
    exact bodyPost_ret (take_results rfl rfl rfl rfl (Cel.put5 z4 _ _ _ _ _)) rfl ⟨rfl, b7.trans ((only5 _ (w.heap.size + 1 + 1) _ _ _ _ _).below b7.size (fun x hx => by obtain rfl := List.mem_singleton.1 hx; omega))⟩

set_option maxHeartbeats 4000000 in
theorem xtake_new_long (M : Int) (bu : Bool) (jap jct : Int) (A : Option Addr) (n c : Nat) (com sec : Bool) (ap fl ct : Int) (a : Option Addr) (m k : Nat) (w : World) (h : rng ap 0 ct = true) (hf : fl = 1 ∨ fl = 3) (hm : 0 < m) (hm9 : m ≤ 1000000) (hl : M < (m : Int)) :
    Calls Try.prog 17 #[.agg (jv M bu jap jct (.slice A n c)), .agg #[.bool com, .bool sec, .int .i64 ap, .int .i64 fl, .int .i64 ct, .slice a m k]] w fun e w' => e = .returned (.tuple #[.agg (jv M false 0 0 (.slice none 0 0)), .slice none 0 0, .bool false, .int .i64 6]) ∧ Below w.heap.size w w' := by
  obtain ⟨w3, hw3⟩ : ∃ w3, w3 = ((w.alloc (.cells (jv M bu jap jct (.slice A n c)) 35)).alloc (.cells #[.bool com, .bool sec, .int .i64 ap, .int .i64 fl, .int .i64 ct, .slice a m k] 24)).alloc (.cells (jv 0 false 0 0 (.slice none 0 0)) 35) := ⟨_, rfl⟩
  obtain ⟨x2, x3, x4, b3, hs3⟩ := pre3 w w3 _ _ _ hw3
  have hh := xheader_any com sec ap fl ct (.slice a m k) w3
  rw [h] at hh
  unfold jv at hw3 ⊢
  have t1 : ((m : Int) == 0) = false := by simp; omega
  have t2 : (m == 0) = false := by simp; omega
  have s1 : decide (M < (m : Int)) = true := by simpa using hl
  clear h hm hl
  rcases hf with rfl | rfl
  all_goals
    go_enter Try.func17, Try.ntmps17
    go_wp2_with fail
    rw [← hw3]
    refine hh.mono ?_
    rintro e w4 ⟨rfl, b4⟩
    have y2 := Cel.later x2 b4
    have y3 := Cel.later x3 b4
    have y4 := Cel.later x4 b4
    have b5 := b3.trans (b4.mono b3.size)
    clear x2 x3 x4 b3 hh hw3
    have z2 := Cel.later y2 (bel_new w4 (.cells #[.int .i64 M, .bool false, .int .i64 0, .int .i64 0, .slice none 0 0] 35))
    have z3 := Cel.later y3 (bel_new w4 (.cells #[.int .i64 M, .bool false, .int .i64 0, .int .i64 0, .slice none 0 0] 35))
    have z4 := Cel.later y4 (bel_new w4 (.cells #[.int .i64 M, .bool false, .int .i64 0, .int .i64 0, .slice none 0 0] 35))
    have z8 := Cel.new w4 35 #[.int .i64 M, .bool false, .int .i64 0, .int .i64 0, .slice none 0 0]
    have b7 := b5.trans ((bel_new w4 (.cells #[.int .i64 M, .bool false, .int .i64 0, .int .i64 0, .slice none 0 0] 35)).mono b5.size)
    have p0 : w4.cell? ⟨w.heap.size, 0, none⟩ = some (.int .i64 M) := y2.cell 0
    have p1 : w4.cell? ⟨w.heap.size, 1, none⟩ = some (.bool bu) := y2.cell 1
    have p2 : w4.cell? ⟨w.heap.size, 2, none⟩ = some (.int .i64 jap) := y2.cell 2
    have p3 : w4.cell? ⟨w.heap.size, 3, none⟩ = some (.int .i64 jct) := y2.cell 3
    have p4 : w4.cell? ⟨w.heap.size, 4, none⟩ = some (.slice A n c) := y2.cell 4
    have r0 : w4.cell? ⟨w.heap.size + 1, 0, none⟩ = some (.bool com) := y3.cell 0
    have r1 : w4.cell? ⟨w.heap.size + 1, 1, none⟩ = some (.bool sec) := y3.cell 1
    have r2 : w4.cell? ⟨w.heap.size + 1, 2, none⟩ = some (.int .i64 ap) := y3.cell 2
    have r3 : w4.cell? ⟨w.heap.size + 1, 3, none⟩ = some (.int .i64 _) := y3.cell 3
    have r4 : w4.cell? ⟨w.heap.size + 1, 4, none⟩ = some (.int .i64 ct) := y3.cell 4
    have r5 : w4.cell? ⟨w.heap.size + 1, 5, none⟩ = some (.slice a m k) := y3.cell 5
    obtain ⟨W5, hW5⟩ : ∃ W5, W5 = (w4.alloc (.cells #[.int .i64 M, .bool false, .int .i64 0, .int .i64 0, .slice none 0 0] 35)) := ⟨_, rfl⟩
    rw [← hW5] at z2 z3 z4 z8 b7
    have hz4 : w.heap.size < w4.heap.size := y2.lt
    have hz44 : w.heap.size + 1 < w4.heap.size := y3.lt
    have hz5 : w.heap.size + 1 + 1 < w4.heap.size := y4.lt
    go_upto_region 4 with fail
    rw [← hW5]
    clear hW5 y2 y3 y4 p0 p1 p2 p3 p4 r0 r1 r2 r3 r4 r5
    have p0 : W5.cell? ⟨w.heap.size, 0, none⟩ = some (.int .i64 M) := z2.cell 0
    have p1 : W5.cell? ⟨w.heap.size, 1, none⟩ = some (.bool bu) := z2.cell 1
    have p2 : W5.cell? ⟨w.heap.size, 2, none⟩ = some (.int .i64 jap) := z2.cell 2
    have p3 : W5.cell? ⟨w.heap.size, 3, none⟩ = some (.int .i64 jct) := z2.cell 3
    have p4 : W5.cell? ⟨w.heap.size, 4, none⟩ = some (.slice A n c) := z2.cell 4
    have pf0 := z2.free 0
    have pf1 := z2.free 1
    have pf2 := z2.free 2
    have pf3 := z2.free 3
    have pf4 := z2.free 4
    have r0 : W5.cell? ⟨w.heap.size + 1, 0, none⟩ = some (.bool com) := z3.cell 0
    have r1 : W5.cell? ⟨w.heap.size + 1, 1, none⟩ = some (.bool sec) := z3.cell 1
    have r2 : W5.cell? ⟨w.heap.size + 1, 2, none⟩ = some (.int .i64 ap) := z3.cell 2
    have r3 : W5.cell? ⟨w.heap.size + 1, 3, none⟩ = some (.int .i64 _) := z3.cell 3
    have r4 : W5.cell? ⟨w.heap.size + 1, 4, none⟩ = some (.int .i64 ct) := z3.cell 4
    have r5 : W5.cell? ⟨w.heap.size + 1, 5, none⟩ = some (.slice a m k) := z3.cell 5
    have j0 : W5.cell? ⟨w4.heap.size, 0, none⟩ = some (.int .i64 M) := z8.cell 0
    have j1 : W5.cell? ⟨w4.heap.size, 1, none⟩ = some (.bool false) := z8.cell 1
    have j2 : W5.cell? ⟨w4.heap.size, 2, none⟩ = some (.int .i64 0) := z8.cell 2
    have j3 : W5.cell? ⟨w4.heap.size, 3, none⟩ = some (.int .i64 0) := z8.cell 3
    have j4 : W5.cell? ⟨w4.heap.size, 4, none⟩ = some (.slice none 0 0) := z8.cell 4
    have x2 := Cel.put5 z2 (.int .i64 M) (.bool false) (.int .i64 0) (.int .i64 0) (.slice none 0 0)
    have o6 := only5 W5 (w.heap.size) (.int .i64 M) (.bool false) (.int .i64 0) (.int .i64 0) (.slice none 0 0)
    have x3 := z3.only o6 (by simp)
    have x4 := z4.only o6 (by simp; omega)
    have x8 := z8.only o6 (by simp; omega)
    have b8 := b7.trans (o6.below b7.size (fun x hx => by obtain rfl := List.mem_singleton.1 hx; omega))
    obtain ⟨W6, hW6⟩ : ∃ W6, W6 = (((((W5.setCell ⟨w.heap.size, 0, none⟩ (.int .i64 M)).setCell ⟨w.heap.size, 1, none⟩ (.bool false)).setCell ⟨w.heap.size, 2, none⟩ (.int .i64 0)).setCell ⟨w.heap.size, 3, none⟩ (.int .i64 0)).setCell ⟨w.heap.size, 4, none⟩ (.slice none 0 0)) := ⟨_, rfl⟩
    rw [← hW6] at x2 x3 x4 x8 b8 o6
    go_upto_region 8 with fail
    rw [← hW6]
    clear hW6 z2 z3 z8 z4 b7 o6 p0 p1 p2 p3 p4 pf0 pf1 pf2 pf3 pf4 r0 r1 r2 r3 r4 r5 j0 j1 j2 j3 j4
    have p0 : W6.cell? ⟨w.heap.size, 0, none⟩ = some (.int .i64 M) := x2.cell 0
    have p1 : W6.cell? ⟨w.heap.size, 1, none⟩ = some (.bool false) := x2.cell 1
    have p2 : W6.cell? ⟨w.heap.size, 2, none⟩ = some (.int .i64 0) := x2.cell 2
    have p3 : W6.cell? ⟨w.heap.size, 3, none⟩ = some (.int .i64 0) := x2.cell 3
    have p4 : W6.cell? ⟨w.heap.size, 4, none⟩ = some (.slice none 0 0) := x2.cell 4
    have r0 : W6.cell? ⟨w.heap.size + 1, 0, none⟩ = some (.bool com) := x3.cell 0
    have r1 : W6.cell? ⟨w.heap.size + 1, 1, none⟩ = some (.bool sec) := x3.cell 1
    have r2 : W6.cell? ⟨w.heap.size + 1, 2, none⟩ = some (.int .i64 ap) := x3.cell 2
    have r3 : W6.cell? ⟨w.heap.size + 1, 3, none⟩ = some (.int .i64 _) := x3.cell 3
    have r4 : W6.cell? ⟨w.heap.size + 1, 4, none⟩ = some (.int .i64 ct) := x3.cell 4
    have r5 : W6.cell? ⟨w.heap.size + 1, 5, none⟩ = some (.slice a m k) := x3.cell 5
    have j0 : W6.cell? ⟨w4.heap.size, 0, none⟩ = some (.int .i64 M) := x8.cell 0
    have j1 : W6.cell? ⟨w4.heap.size, 1, none⟩ = some (.bool false) := x8.cell 1
    have j2 : W6.cell? ⟨w4.heap.size, 2, none⟩ = some (.int .i64 0) := x8.cell 2
    have j3 : W6.cell? ⟨w4.heap.size, 3, none⟩ = some (.int .i64 0) := x8.cell 3
    have j4 : W6.cell? ⟨w4.heap.size, 4, none⟩ = some (.slice none 0 0) := x8.cell 4
    have q0 : W6.cell? ⟨w.heap.size + 1 + 1, 0, none⟩ = some (.int .i64 0) := x4.cell 0
    have q1 : W6.cell? ⟨w.heap.size + 1 + 1, 1, none⟩ = some (.bool false) := x4.cell 1
    have q2 : W6.cell? ⟨w.heap.size + 1 + 1, 2, none⟩ = some (.int .i64 0) := x4.cell 2
    have q3 : W6.cell? ⟨w.heap.size + 1 + 1, 3, none⟩ = some (.int .i64 0) := x4.cell 3
    have q4 : W6.cell? ⟨w.heap.size + 1 + 1, 4, none⟩ = some (.slice none 0 0) := x4.cell 4
    have qf0 := x4.free 0
    have qf1 := x4.free 1
    have qf2 := x4.free 2
    have qf3 := x4.free 3
    have qf4 := x4.free 4
    go_wp2
    exact bodyPost_ret (take_results rfl rfl rfl rfl (Cel.put5 x4 _ _ _ _ _)) rfl ⟨rfl, b8.trans ((only5 _ (w.heap.size + 1 + 1) _ _ _ _ _).below b8.size (fun x hx => by obtain rfl := List.mem_singleton.1 hx; omega))⟩
end Go.Proofs.Ytfjmlgclgmcjcaa.Par
