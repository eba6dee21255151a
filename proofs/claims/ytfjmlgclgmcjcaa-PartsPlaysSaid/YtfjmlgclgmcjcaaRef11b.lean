/-
  The walk of the reference's Take (layer 11).
-/
import Derived.Test.YtfjmlgclgmcjcaaRef11a
namespace Go.Proofs.Ytfjmlgclgmcjcaa.Par
open Go.RowKit Go.Proofs.Ytfjmlgclgmcjcaa.Row
open Pac (Pk bel_new Cel.later Cel.within)

theorem take_results {tmps : Array Value} {W : World} {g : Nat} {M ap ct : Int} {b : Bool} {v m f e : Value} (h4 : tmps.getD 4 undef = .pointer (some ⟨g, 0, none⟩)) (h5 : tmps.getD 5 undef = m) (h6 : tmps.getD 6 undef = f) (h7 : tmps.getD 7 undef = e) (hC : Cel W g 35 (jv M b ap ct v)) :
    (results Try.f17 tmps).run Try.prog W = .ok (.tuple #[.agg (jv M b ap ct v), m, f, e]) W := by
  have c0 := hC.cell 0
  have c1 := hC.cell 1
  have c2 := hC.cell 2
  have c3 := hC.cell 3
  have c4 := hC.cell 4
  simp [jv] at c0 c1 c2 c3 c4
  simp only [Array.getD_eq_getD_getElem?] at h4 h5 h6 h7
  simp [results, Try.results17, go_sem, h4, h5, h6, h7, c0, c1, c2, c3, c4, jv]

section
variable {W : World} {g : Nat} {t : TypeId} {a0 a1 a2 a3 a4 : Value}
/-- a Joiner stored over another -/
theorem Cel.put5 (h : Cel W g t #[a0, a1, a2, a3, a4]) (b0 b1 b2 b3 b4 : Value) :
    Cel (((((W.setCell ⟨g, 0, none⟩ b0).setCell ⟨g, 1, none⟩ b1).setCell ⟨g, 2, none⟩ b2).setCell ⟨g, 3, none⟩ b3).setCell ⟨g, 4, none⟩ b4) g t #[b0, b1, b2, b3, b4] := by
  simpa using ((((h.put 0 b0).put 1 b1).put 2 b2).put 3 b3).put 4 b4
theorem only5 (W : World) (g : Nat) (b0 b1 b2 b3 b4 : Value) :
    Only [g] W (((((W.setCell ⟨g, 0, none⟩ b0).setCell ⟨g, 1, none⟩ b1).setCell ⟨g, 2, none⟩ b2).setCell ⟨g, 3, none⟩ b3).setCell ⟨g, 4, none⟩ b4) :=
  (((((Only.refl [g] W).put (.inl (by simp)) _).put (.inl (by simp)) _).put (.inl (by simp)) _).put (.inl (by simp)) _).put (.inl (by simp)) _
end

/-- Take's first blocks: the Joiner, the packet, the result -/
theorem pre3 (w w3 : World) (J P Z : Array Value) (h : w3 = ((w.alloc (.cells J 35)).alloc (.cells P 24)).alloc (.cells Z 35)) :
    Cel w3 w.heap.size 35 J ∧ Cel w3 (w.heap.size + 1) 24 P ∧ Cel w3 (w.heap.size + 1 + 1) 35 Z ∧ Below w.heap.size w w3 ∧ w3.heap.size = w.heap.size + 3 := by
  subst h
  have b1 := bel_new w (.cells J 35)
  have b2 := bel_new (w.alloc (.cells J 35)) (.cells P 24)
  have b3 := bel_new ((w.alloc (.cells J 35)).alloc (.cells P 24)) (.cells Z 35)
  have e2 := Cel.new (w.alloc (.cells J 35)) 24 P
  have e3 := Cel.new ((w.alloc (.cells J 35)).alloc (.cells P 24)) 35 Z
  refine ⟨Cel.later (Cel.later (Cel.new w _ J) b2) b3, ?_, ?_, (b1.trans (b2.mono b1.size)).trans (b3.mono (b1.trans (b2.mono b1.size)).size), by simp⟩
  · simpa using Cel.later e2 b3
  · simpa using e3

set_option maxHeartbeats 2000000 in
theorem xtake_rng (M : Int) (bu : Bool) (jap jct : Int) (A : Option Addr) (n c : Nat) (com sec : Bool) (ap fl ct : Int) (a : Option Addr) (m k : Nat) (w : World) (h : rng ap 0 ct = false) :
    Calls Try.prog 17 #[.agg (jv M bu jap jct (.slice A n c)), .agg #[.bool com, .bool sec, .int .i64 ap, .int .i64 fl, .int .i64 ct, .slice a m k]] w fun e w' => e = .returned (.tuple #[.agg (jv M bu jap jct (.slice A n c)), .slice none 0 0, .bool false, .int .i64 1]) ∧ Below w.heap.size w w' := by
  obtain ⟨w3, hw3⟩ : ∃ w3, w3 = ((w.alloc (.cells (jv M bu jap jct (.slice A n c)) 35)).alloc (.cells #[.bool com, .bool sec, .int .i64 ap, .int .i64 fl, .int .i64 ct, .slice a m k] 24)).alloc (.cells (jv 0 false 0 0 (.slice none 0 0)) 35) := ⟨_, rfl⟩
  obtain ⟨x2, x3, x4, b3, hs3⟩ := pre3 w w3 _ _ _ hw3
  have hh := xheader_any com sec ap fl ct (.slice a m k) w3
  rw [h] at hh
  unfold jv at hw3 ⊢
  clear h
  go_enter Try.func17, Try.ntmps17
  go_wp2_with fail
  rw [← hw3]
  refine hh.mono ?_
  rintro e w4 ⟨rfl, b4⟩
  have y2 := Cel.later x2 b4
  have y3 := Cel.later x3 b4
  have y4 := Cel.later x4 b4
  have b5 := b3.trans (b4.mono b3.size)
  clear x2 x3 x4 b3 hh hw3
  have p0 := y2.cell 0
  have p1 := y2.cell 1
  have p2 := y2.cell 2
  have p3 := y2.cell 3
  have p4 := y2.cell 4
  simp [jv] at p0 p1 p2 p3 p4
  have q0 := y4.cell 0
  have q1 := y4.cell 1
  have q2 := y4.cell 2
  have q3 := y4.cell 3
  have q4 := y4.cell 4
  simp [jv] at q0 q1 q2 q3 q4
  have qf0 := y4.free 0
  have qf1 := y4.free 1
  have qf2 := y4.free 2
  have qf3 := y4.free 3
  have qf4 := y4.free 4
  go_wp2
  exact bodyPost_ret (take_results rfl rfl rfl rfl (Cel.put5 y4 _ _ _ _ _)) rfl ⟨rfl, b5.trans ((only5 w4 (w.heap.size + 1 + 1) _ _ _ _ _).below b5.size (fun x hx => by obtain rfl := List.mem_singleton.1 hx; omega))⟩

set_option maxHeartbeats 4000000 in
theorem xtake_flag (M : Int) (bu : Bool) (jap jct : Int) (A : Option Addr) (n c : Nat) (com sec : Bool) (ap fl ct : Int) (a : Option Addr) (m k : Nat) (w : World) (h : rng ap 0 ct = true) (hf : (fl < 0 ∨ 3 < fl) ∨ m = 0) :
    Calls Try.prog 17 #[.agg (jv M bu jap jct (.slice A n c)), .agg #[.bool com, .bool sec, .int .i64 ap, .int .i64 fl, .int .i64 ct, .slice a m k]] w fun e w' => e = .returned (.tuple #[.agg (jv M bu jap jct (.slice A n c)), .slice none 0 0, .bool false, .int .i64 1]) ∧ Below w.heap.size w w' := by
  obtain ⟨w3, hw3⟩ : ∃ w3, w3 = ((w.alloc (.cells (jv M bu jap jct (.slice A n c)) 35)).alloc (.cells #[.bool com, .bool sec, .int .i64 ap, .int .i64 fl, .int .i64 ct, .slice a m k] 24)).alloc (.cells (jv 0 false 0 0 (.slice none 0 0)) 35) := ⟨_, rfl⟩
  obtain ⟨x2, x3, x4, b3, hs3⟩ := pre3 w w3 _ _ _ hw3
  have hh := xheader_any com sec ap fl ct (.slice a m k) w3
  rw [h] at hh
  unfold jv at hw3 ⊢
  have hcase : (decide (fl < 0) = true) ∨ (decide (fl < 0) = false ∧ decide (3 < fl) = true) ∨ (decide (fl < 0) = false ∧ decide (3 < fl) = false ∧ m = 0) := by
    simp only [decide_eq_true_eq, decide_eq_false_iff_not]; omega
  clear h hf
  rcases hcase with h1 | ⟨h1, h2⟩ | ⟨h1, h2, rfl⟩
  · go_enter Try.func17, Try.ntmps17
    go_wp2_with fail
    rw [← hw3]
    refine hh.mono ?_
    rintro e w4 ⟨rfl, b4⟩
    have y2 := Cel.later x2 b4
    have y3 := Cel.later x3 b4
    have y4 := Cel.later x4 b4
    have b5 := b3.trans (b4.mono b3.size)
    clear x2 x3 x4 b3 hh hw3
    have p0 := y2.cell 0
    have p1 := y2.cell 1
    have p2 := y2.cell 2
    have p3 := y2.cell 3
    have p4 := y2.cell 4
    simp [jv] at p0 p1 p2 p3 p4
    have r0 := y3.cell 0
    have r1 := y3.cell 1
    have r2 := y3.cell 2
    have r3 := y3.cell 3
    have r4 := y3.cell 4
    have r5 := y3.cell 5
    simp [jv] at r0 r1 r2 r3 r4 r5
    have q0 := y4.cell 0
    have q1 := y4.cell 1
    have q2 := y4.cell 2
    have q3 := y4.cell 3
    have q4 := y4.cell 4
    simp [jv] at q0 q1 q2 q3 q4
    have qf0 := y4.free 0
    have qf1 := y4.free 1
    have qf2 := y4.free 2
    have qf3 := y4.free 3
    have qf4 := y4.free 4
    go_wp2
    exact bodyPost_ret (take_results rfl rfl rfl rfl (Cel.put5 y4 _ _ _ _ _)) rfl ⟨rfl, b5.trans ((only5 w4 (w.heap.size + 1 + 1) _ _ _ _ _).below b5.size (fun x hx => by obtain rfl := List.mem_singleton.1 hx; omega))⟩
  · go_enter Try.func17, Try.ntmps17
    go_wp2_with fail
    rw [← hw3]
    refine hh.mono ?_
    rintro e w4 ⟨rfl, b4⟩
    have y2 := Cel.later x2 b4
    have y3 := Cel.later x3 b4
    have y4 := Cel.later x4 b4
    have b5 := b3.trans (b4.mono b3.size)
    clear x2 x3 x4 b3 hh hw3
    have p0 := y2.cell 0
    have p1 := y2.cell 1
    have p2 := y2.cell 2
    have p3 := y2.cell 3
    have p4 := y2.cell 4
    simp [jv] at p0 p1 p2 p3 p4
    have r0 := y3.cell 0
    have r1 := y3.cell 1
    have r2 := y3.cell 2
    have r3 := y3.cell 3
    have r4 := y3.cell 4
    have r5 := y3.cell 5
    simp [jv] at r0 r1 r2 r3 r4 r5
    have q0 := y4.cell 0
    have q1 := y4.cell 1
    have q2 := y4.cell 2
    have q3 := y4.cell 3
    have q4 := y4.cell 4
    simp [jv] at q0 q1 q2 q3 q4
    have qf0 := y4.free 0
    have qf1 := y4.free 1
    have qf2 := y4.free 2
    have qf3 := y4.free 3
    have qf4 := y4.free 4
    go_wp2
    exact bodyPost_ret (take_results rfl rfl rfl rfl (Cel.put5 y4 _ _ _ _ _)) rfl ⟨rfl, b5.trans ((only5 w4 (w.heap.size + 1 + 1) _ _ _ _ _).below b5.size (fun x hx => by obtain rfl := List.mem_singleton.1 hx; omega))⟩
  · go_enter Try.func17, Try.ntmps17
    go_wp2_with fail
    rw [← hw3]
    refine hh.mono ?_
    rintro e w4 ⟨rfl, b4⟩
    have y2 := Cel.later x2 b4
    have y3 := Cel.later x3 b4
    have y4 := Cel.later x4 b4
    have b5 := b3.trans (b4.mono b3.size)
    clear x2 x3 x4 b3 hh hw3
    have p0 := y2.cell 0
    have p1 := y2.cell 1
    have p2 := y2.cell 2
    have p3 := y2.cell 3
    have p4 := y2.cell 4
    simp [jv] at p0 p1 p2 p3 p4
    have r0 := y3.cell 0
    have r1 := y3.cell 1
    have r2 := y3.cell 2
    have r3 := y3.cell 3
    have r4 := y3.cell 4
    have r5 := y3.cell 5
    simp [jv] at r0 r1 r2 r3 r4 r5
    have q0 := y4.cell 0
    have q1 := y4.cell 1
    have q2 := y4.cell 2
    have q3 := y4.cell 3
    have q4 := y4.cell 4
    simp [jv] at q0 q1 q2 q3 q4
    have qf0 := y4.free 0
    have qf1 := y4.free 1
    have qf2 := y4.free 2
    have qf3 := y4.free 3
    have qf4 := y4.free 4
    go_wp2
    exact bodyPost_ret (take_results rfl rfl rfl rfl (Cel.put5 y4 _ _ _ _ _)) rfl ⟨rfl, b5.trans ((only5 w4 (w.heap.size + 1 + 1) _ _ _ _ _).below b5.size (fun x hx => by obtain rfl := List.mem_singleton.1 hx; omega))⟩

set_option maxHeartbeats 4000000 in
theorem xtake_form (M : Int) (bu : Bool) (jap jct : Int) (A : Option Addr) (n c : Nat) (com sec : Bool) (ap fl ct : Int) (a : Option Addr) (m k : Nat) (w : World) (h : rng ap 0 ct = true) (hf : fl = 0 ∨ fl = 2) (hm : 0 < m) (hj : 0 ≤ jct ∧ jct ≤ 16383) (hno : bu = false ∨ ap ≠ jap ∨ ct ≠ (jct + 1) % 16384) :
    Calls Try.prog 17 #[.agg (jv M bu jap jct (.slice A n c)), .agg #[.bool com, .bool sec, .int .i64 ap, .int .i64 fl, .int .i64 ct, .slice a m k]] w fun e w' => e = .returned (.tuple #[.agg (jv M false 0 0 (.slice none 0 0)), .slice none 0 0, .bool false, .int .i64 4]) ∧ Below w.heap.size w w' := by
  obtain ⟨w3, hw3⟩ : ∃ w3, w3 = ((w.alloc (.cells (jv M bu jap jct (.slice A n c)) 35)).alloc (.cells #[.bool com, .bool sec, .int .i64 ap, .int .i64 fl, .int .i64 ct, .slice a m k] 24)).alloc (.cells (jv 0 false 0 0 (.slice none 0 0)) 35) := ⟨_, rfl⟩
  obtain ⟨x2, x3, x4, b3, hs3⟩ := pre3 w w3 _ _ _ hw3
  have hh := xheader_any com sec ap fl ct (.slice a m k) w3
  rw [h] at hh
  unfold jv at hw3 ⊢
  have t1 : ((m : Int) == 0) = false := by simp; omega
  have t2 : (m == 0) = false := by simp; omega
  obtain ⟨j0, j1⟩ := hj
  obtain ⟨N, hN⟩ : ∃ N, (jct + 1) % 16384 = N := ⟨_, rfl⟩
  rw [hN] at hno
  have n1 : (jct + 1).tmod 16384 = N := by rw [Int.tmod_eq_emod_of_nonneg (by omega)]; exact hN
  have hcase : bu = false ∨ (bu = true ∧ (ap != jap) = true) ∨ (bu = true ∧ (ap != jap) = false ∧ (ct != N) = true) := by
    cases bu with
    | false => exact .inl rfl
    | true =>
      by_cases e : ap = jap
      · refine .inr (.inr ⟨rfl, by simpa using e, ?_⟩)
        have : ct ≠ N := by rcases hno with x | x | x; cases x; exact absurd e x; exact x
        simpa using this
      · exact .inr (.inl ⟨rfl, by simpa using e⟩)
  clear h hno hN hm
  rcases hf with rfl | rfl
  all_goals
    rcases hcase with rfl | ⟨rfl, e1⟩ | ⟨rfl, e1, e2⟩
    · go_enter Try.func17, Try.ntmps17
      go_wp2_with fail
      rw [← hw3]
      refine hh.mono ?_
      rintro e w4 ⟨rfl, b4⟩
      have y2 := Cel.later x2 b4
      have y3 := Cel.later x3 b4
      have y4 := Cel.later x4 b4
      have b5 := b3.trans (b4.mono b3.size)
      clear x2 x3 x4 b3 hh hw3
      have z2 := Cel.later y2 (bel_new w4 (.cells #[.int .i64 M, .bool false, .int .i64 0, .int .i64 0, .slice none 0 0] 35))
      have z3 := Cel.later y3 (bel_new w4 (.cells #[.int .i64 M, .bool false, .int .i64 0, .int .i64 0, .slice none 0 0] 35))
      have z4 := Cel.later y4 (bel_new w4 (.cells #[.int .i64 M, .bool false, .int .i64 0, .int .i64 0, .slice none 0 0] 35))
      have z8 := Cel.new w4 35 #[.int .i64 M, .bool false, .int .i64 0, .int .i64 0, .slice none 0 0]
      have b7 := b5.trans ((bel_new w4 (.cells #[.int .i64 M, .bool false, .int .i64 0, .int .i64 0, .slice none 0 0] 35)).mono b5.size)
      have p0 : w4.cell? ⟨w.heap.size, 0, none⟩ = some (.int .i64 M) := y2.cell 0
      have p1 : w4.cell? ⟨w.heap.size, 1, none⟩ = some (.bool false) := y2.cell 1
      have p2 : w4.cell? ⟨w.heap.size, 2, none⟩ = some (.int .i64 jap) := y2.cell 2
      have p3 : w4.cell? ⟨w.heap.size, 3, none⟩ = some (.int .i64 jct) := y2.cell 3
      have p4 : w4.cell? ⟨w.heap.size, 4, none⟩ = some (.slice A n c) := y2.cell 4
      have r0 : w4.cell? ⟨w.heap.size + 1, 0, none⟩ = some (.bool com) := y3.cell 0
      have r1 : w4.cell? ⟨w.heap.size + 1, 1, none⟩ = some (.bool sec) := y3.cell 1
      have r2 : w4.cell? ⟨w.heap.size + 1, 2, none⟩ = some (.int .i64 ap) := y3.cell 2
      have r3 : w4.cell? ⟨w.heap.size + 1, 3, none⟩ = some (.int .i64 _) := y3.cell 3
      have r4 : w4.cell? ⟨w.heap.size + 1, 4, none⟩ = some (.int .i64 ct) := y3.cell 4
      have r5 : w4.cell? ⟨w.heap.size + 1, 5, none⟩ = some (.slice a m k) := y3.cell 5
      have u0 : (w4.alloc (.cells #[.int .i64 M, .bool false, .int .i64 0, .int .i64 0, .slice none 0 0] 35)).cell? ⟨w.heap.size, 0, none⟩ = some (.int .i64 M) := z2.cell 0
      have u1 : (w4.alloc (.cells #[.int .i64 M, .bool false, .int .i64 0, .int .i64 0, .slice none 0 0] 35)).cell? ⟨w.heap.size, 1, none⟩ = some (.bool false) := z2.cell 1
      have u2 : (w4.alloc (.cells #[.int .i64 M, .bool false, .int .i64 0, .int .i64 0, .slice none 0 0] 35)).cell? ⟨w.heap.size, 2, none⟩ = some (.int .i64 jap) := z2.cell 2
      have u3 : (w4.alloc (.cells #[.int .i64 M, .bool false, .int .i64 0, .int .i64 0, .slice none 0 0] 35)).cell? ⟨w.heap.size, 3, none⟩ = some (.int .i64 jct) := z2.cell 3
      have u4 : (w4.alloc (.cells #[.int .i64 M, .bool false, .int .i64 0, .int .i64 0, .slice none 0 0] 35)).cell? ⟨w.heap.size, 4, none⟩ = some (.slice A n c) := z2.cell 4
      have v0 : (w4.alloc (.cells #[.int .i64 M, .bool false, .int .i64 0, .int .i64 0, .slice none 0 0] 35)).cell? ⟨w.heap.size + 1, 0, none⟩ = some (.bool com) := z3.cell 0
      have v1 : (w4.alloc (.cells #[.int .i64 M, .bool false, .int .i64 0, .int .i64 0, .slice none 0 0] 35)).cell? ⟨w.heap.size + 1, 1, none⟩ = some (.bool sec) := z3.cell 1
      have v2 : (w4.alloc (.cells #[.int .i64 M, .bool false, .int .i64 0, .int .i64 0, .slice none 0 0] 35)).cell? ⟨w.heap.size + 1, 2, none⟩ = some (.int .i64 ap) := z3.cell 2
      have v3 : (w4.alloc (.cells #[.int .i64 M, .bool false, .int .i64 0, .int .i64 0, .slice none 0 0] 35)).cell? ⟨w.heap.size + 1, 3, none⟩ = some (.int .i64 _) := z3.cell 3
      have v4 : (w4.alloc (.cells #[.int .i64 M, .bool false, .int .i64 0, .int .i64 0, .slice none 0 0] 35)).cell? ⟨w.heap.size + 1, 4, none⟩ = some (.int .i64 ct) := z3.cell 4
      have v5 : (w4.alloc (.cells #[.int .i64 M, .bool false, .int .i64 0, .int .i64 0, .slice none 0 0] 35)).cell? ⟨w.heap.size + 1, 5, none⟩ = some (.slice a m k) := z3.cell 5
      have q0 : (w4.alloc (.cells #[.int .i64 M, .bool false, .int .i64 0, .int .i64 0, .slice none 0 0] 35)).cell? ⟨w.heap.size + 1 + 1, 0, none⟩ = some (.int .i64 0) := z4.cell 0
      have q1 : (w4.alloc (.cells #[.int .i64 M, .bool false, .int .i64 0, .int .i64 0, .slice none 0 0] 35)).cell? ⟨w.heap.size + 1 + 1, 1, none⟩ = some (.bool false) := z4.cell 1
      have q2 : (w4.alloc (.cells #[.int .i64 M, .bool false, .int .i64 0, .int .i64 0, .slice none 0 0] 35)).cell? ⟨w.heap.size + 1 + 1, 2, none⟩ = some (.int .i64 0) := z4.cell 2
      have q3 : (w4.alloc (.cells #[.int .i64 M, .bool false, .int .i64 0, .int .i64 0, .slice none 0 0] 35)).cell? ⟨w.heap.size + 1 + 1, 3, none⟩ = some (.int .i64 0) := z4.cell 3
      have q4 : (w4.alloc (.cells #[.int .i64 M, .bool false, .int .i64 0, .int .i64 0, .slice none 0 0] 35)).cell? ⟨w.heap.size + 1 + 1, 4, none⟩ = some (.slice none 0 0) := z4.cell 4
      have qf0 := z4.free 0
      have qf1 := z4.free 1
      have qf2 := z4.free 2
      have qf3 := z4.free 3
      have qf4 := z4.free 4
      have s0 : (w4.alloc (.cells #[.int .i64 M, .bool false, .int .i64 0, .int .i64 0, .slice none 0 0] 35)).cell? ⟨w4.heap.size, 0, none⟩ = some (.int .i64 M) := z8.cell 0
      have s1 : (w4.alloc (.cells #[.int .i64 M, .bool false, .int .i64 0, .int .i64 0, .slice none 0 0] 35)).cell? ⟨w4.heap.size, 1, none⟩ = some (.bool false) := z8.cell 1
      have s2 : (w4.alloc (.cells #[.int .i64 M, .bool false, .int .i64 0, .int .i64 0, .slice none 0 0] 35)).cell? ⟨w4.heap.size, 2, none⟩ = some (.int .i64 0) := z8.cell 2
      have s3 : (w4.alloc (.cells #[.int .i64 M, .bool false, .int .i64 0, .int .i64 0, .slice none 0 0] 35)).cell? ⟨w4.heap.size, 3, none⟩ = some (.int .i64 0) := z8.cell 3
      have s4 : (w4.alloc (.cells #[.int .i64 M, .bool false, .int .i64 0, .int .i64 0, .slice none 0 0] 35)).cell? ⟨w4.heap.size, 4, none⟩ = some (.slice none 0 0) := z8.cell 4
      clear y2 y3 y4 z2 z3 z8
      go_wp2
      exact bodyPost_ret (take_results rfl rfl rfl rfl (Cel.put5 z4 _ _ _ _ _)) rfl ⟨rfl, b7.trans ((only5 _ (w.heap.size + 1 + 1) _ _ _ _ _).below b7.size (fun x hx => by obtain rfl := List.mem_singleton.1 hx; omega))⟩
    · go_enter Try.func17, Try.ntmps17
      go_wp2_with fail
      rw [← hw3]
      refine hh.mono ?_
      rintro e w4 ⟨rfl, b4⟩
      have y2 := Cel.later x2 b4
      have y3 := Cel.later x3 b4
      have y4 := Cel.later x4 b4
      have b5 := b3.trans (b4.mono b3.size)
      clear x2 x3 x4 b3 hh hw3
      have z2 := Cel.later y2 (bel_new w4 (.cells #[.int .i64 M, .bool false, .int .i64 0, .int .i64 0, .slice none 0 0] 35))
      have z3 := Cel.later y3 (bel_new w4 (.cells #[.int .i64 M, .bool false, .int .i64 0, .int .i64 0, .slice none 0 0] 35))
      have z4 := Cel.later y4 (bel_new w4 (.cells #[.int .i64 M, .bool false, .int .i64 0, .int .i64 0, .slice none 0 0] 35))
      have z8 := Cel.new w4 35 #[.int .i64 M, .bool false, .int .i64 0, .int .i64 0, .slice none 0 0]
      have b7 := b5.trans ((bel_new w4 (.cells #[.int .i64 M, .bool false, .int .i64 0, .int .i64 0, .slice none 0 0] 35)).mono b5.size)
      have p0 : w4.cell? ⟨w.heap.size, 0, none⟩ = some (.int .i64 M) := y2.cell 0
      have p1 : w4.cell? ⟨w.heap.size, 1, none⟩ = some (.bool true) := y2.cell 1
      have p2 : w4.cell? ⟨w.heap.size, 2, none⟩ = some (.int .i64 jap) := y2.cell 2
      have p3 : w4.cell? ⟨w.heap.size, 3, none⟩ = some (.int .i64 jct) := y2.cell 3
      have p4 : w4.cell? ⟨w.heap.size, 4, none⟩ = some (.slice A n c) := y2.cell 4
      have r0 : w4.cell? ⟨w.heap.size + 1, 0, none⟩ = some (.bool com) := y3.cell 0
      have r1 : w4.cell? ⟨w.heap.size + 1, 1, none⟩ = some (.bool sec) := y3.cell 1
      have r2 : w4.cell? ⟨w.heap.size + 1, 2, none⟩ = some (.int .i64 ap) := y3.cell 2
      have r3 : w4.cell? ⟨w.heap.size + 1, 3, none⟩ = some (.int .i64 _) := y3.cell 3
      have r4 : w4.cell? ⟨w.heap.size + 1, 4, none⟩ = some (.int .i64 ct) := y3.cell 4
      have r5 : w4.cell? ⟨w.heap.size + 1, 5, none⟩ = some (.slice a m k) := y3.cell 5
      have u0 : (w4.alloc (.cells #[.int .i64 M, .bool false, .int .i64 0, .int .i64 0, .slice none 0 0] 35)).cell? ⟨w.heap.size, 0, none⟩ = some (.int .i64 M) := z2.cell 0
      have u1 : (w4.alloc (.cells #[.int .i64 M, .bool false, .int .i64 0, .int .i64 0, .slice none 0 0] 35)).cell? ⟨w.heap.size, 1, none⟩ = some (.bool true) := z2.cell 1
      have u2 : (w4.alloc (.cells #[.int .i64 M, .bool false, .int .i64 0, .int .i64 0, .slice none 0 0] 35)).cell? ⟨w.heap.size, 2, none⟩ = some (.int .i64 jap) := z2.cell 2
      have u3 : (w4.alloc (.cells #[.int .i64 M, .bool false, .int .i64 0, .int .i64 0, .slice none 0 0] 35)).cell? ⟨w.heap.size, 3, none⟩ = some (.int .i64 jct) := z2.cell 3
      have u4 : (w4.alloc (.cells #[.int .i64 M, .bool false, .int .i64 0, .int .i64 0, .slice none 0 0] 35)).cell? ⟨w.heap.size, 4, none⟩ = some (.slice A n c) := z2.cell 4
      have v0 : (w4.alloc (.cells #[.int .i64 M, .bool false, .int .i64 0, .int .i64 0, .slice none 0 0] 35)).cell? ⟨w.heap.size + 1, 0, none⟩ = some (.bool com) := z3.cell 0
      have v1 : (w4.alloc (.cells #[.int .i64 M, .bool false, .int .i64 0, .int .i64 0, .slice none 0 0] 35)).cell? ⟨w.heap.size + 1, 1, none⟩ = some (.bool sec) := z3.cell 1
      have v2 : (w4.alloc (.cells #[.int .i64 M, .bool false, .int .i64 0, .int .i64 0, .slice none 0 0] 35)).cell? ⟨w.heap.size + 1, 2, none⟩ = some (.int .i64 ap) := z3.cell 2
      have v3 : (w4.alloc (.cells #[.int .i64 M, .bool false, .int .i64 0, .int .i64 0, .slice none 0 0] 35)).cell? ⟨w.heap.size + 1, 3, none⟩ = some (.int .i64 _) := z3.cell 3
      have v4 : (w4.alloc (.cells #[.int .i64 M, .bool false, .int .i64 0, .int .i64 0, .slice none 0 0] 35)).cell? ⟨w.heap.size + 1, 4, none⟩ = some (.int .i64 ct) := z3.cell 4
      have v5 : (w4.alloc (.cells #[.int .i64 M, .bool false, .int .i64 0, .int .i64 0, .slice none 0 0] 35)).cell? ⟨w.heap.size + 1, 5, none⟩ = some (.slice a m k) := z3.cell 5
      have q0 : (w4.alloc (.cells #[.int .i64 M, .bool false, .int .i64 0, .int .i64 0, .slice none 0 0] 35)).cell? ⟨w.heap.size + 1 + 1, 0, none⟩ = some (.int .i64 0) := z4.cell 0
      have q1 : (w4.alloc (.cells #[.int .i64 M, .bool false, .int .i64 0, .int .i64 0, .slice none 0 0] 35)).cell? ⟨w.heap.size + 1 + 1, 1, none⟩ = some (.bool false) := z4.cell 1
      have q2 : (w4.alloc (.cells #[.int .i64 M, .bool false, .int .i64 0, .int .i64 0, .slice none 0 0] 35)).cell? ⟨w.heap.size + 1 + 1, 2, none⟩ = some (.int .i64 0) := z4.cell 2
      have q3 : (w4.alloc (.cells #[.int .i64 M, .bool false, .int .i64 0, .int .i64 0, .slice none 0 0] 35)).cell? ⟨w.heap.size + 1 + 1, 3, none⟩ = some (.int .i64 0) := z4.cell 3
      have q4 : (w4.alloc (.cells #[.int .i64 M, .bool false, .int .i64 0, .int .i64 0, .slice none 0 0] 35)).cell? ⟨w.heap.size + 1 + 1, 4, none⟩ = some (.slice none 0 0) := z4.cell 4
      have qf0 := z4.free 0
      have qf1 := z4.free 1
      have qf2 := z4.free 2
      have qf3 := z4.free 3
      have qf4 := z4.free 4
      have s0 : (w4.alloc (.cells #[.int .i64 M, .bool false, .int .i64 0, .int .i64 0, .slice none 0 0] 35)).cell? ⟨w4.heap.size, 0, none⟩ = some (.int .i64 M) := z8.cell 0
      have s1 : (w4.alloc (.cells #[.int .i64 M, .bool false, .int .i64 0, .int .i64 0, .slice none 0 0] 35)).cell? ⟨w4.heap.size, 1, none⟩ = some (.bool false) := z8.cell 1
      have s2 : (w4.alloc (.cells #[.int .i64 M, .bool false, .int .i64 0, .int .i64 0, .slice none 0 0] 35)).cell? ⟨w4.heap.size, 2, none⟩ = some (.int .i64 0) := z8.cell 2
      have s3 : (w4.alloc (.cells #[.int .i64 M, .bool false, .int .i64 0, .int .i64 0, .slice none 0 0] 35)).cell? ⟨w4.heap.size, 3, none⟩ = some (.int .i64 0) := z8.cell 3
      have s4 : (w4.alloc (.cells #[.int .i64 M, .bool false, .int .i64 0, .int .i64 0, .slice none 0 0] 35)).cell? ⟨w4.heap.size, 4, none⟩ = some (.slice none 0 0) := z8.cell 4
      clear y2 y3 y4 z2 z3 z8
      go_wp2
      exact bodyPost_ret (take_results rfl rfl rfl rfl (Cel.put5 z4 _ _ _ _ _)) rfl ⟨rfl, b7.trans ((only5 _ (w.heap.size + 1 + 1) _ _ _ _ _).below b7.size (fun x hx => by obtain rfl := List.mem_singleton.1 hx; omega))⟩
    · go_enter Try.func17, Try.ntmps17
      go_wp2_with fail
      rw [← hw3]
      refine hh.mono ?_
      rintro e w4 ⟨rfl, b4⟩
      have y2 := Cel.later x2 b4
      have y3 := Cel.later x3 b4
      have y4 := Cel.later x4 b4
      have b5 := b3.trans (b4.mono b3.size)
      clear x2 x3 x4 b3 hh hw3
      have z2 := Cel.later y2 (bel_new w4 (.cells #[.int .i64 M, .bool false, .int .i64 0, .int .i64 0, .slice none 0 0] 35))
      have z3 := Cel.later y3 (bel_new w4 (.cells #[.int .i64 M, .bool false, .int .i64 0, .int .i64 0, .slice none 0 0] 35))
      have z4 := Cel.later y4 (bel_new w4 (.cells #[.int .i64 M, .bool false, .int .i64 0, .int .i64 0, .slice none 0 0] 35))
      have z8 := Cel.new w4 35 #[.int .i64 M, .bool false, .int .i64 0, .int .i64 0, .slice none 0 0]
      have b7 := b5.trans ((bel_new w4 (.cells #[.int .i64 M, .bool false, .int .i64 0, .int .i64 0, .slice none 0 0] 35)).mono b5.size)
      have p0 : w4.cell? ⟨w.heap.size, 0, none⟩ = some (.int .i64 M) := y2.cell 0
      have p1 : w4.cell? ⟨w.heap.size, 1, none⟩ = some (.bool true) := y2.cell 1
      have p2 : w4.cell? ⟨w.heap.size, 2, none⟩ = some (.int .i64 jap) := y2.cell 2
      have p3 : w4.cell? ⟨w.heap.size, 3, none⟩ = some (.int .i64 jct) := y2.cell 3
      have p4 : w4.cell? ⟨w.heap.size, 4, none⟩ = some (.slice A n c) := y2.cell 4
      have r0 : w4.cell? ⟨w.heap.size + 1, 0, none⟩ = some (.bool com) := y3.cell 0
      have r1 : w4.cell? ⟨w.heap.size + 1, 1, none⟩ = some (.bool sec) := y3.cell 1
      have r2 : w4.cell? ⟨w.heap.size + 1, 2, none⟩ = some (.int .i64 ap) := y3.cell 2
      have r3 : w4.cell? ⟨w.heap.size + 1, 3, none⟩ = some (.int .i64 _) := y3.cell 3
      have r4 : w4.cell? ⟨w.heap.size + 1, 4, none⟩ = some (.int .i64 ct) := y3.cell 4
      have r5 : w4.cell? ⟨w.heap.size + 1, 5, none⟩ = some (.slice a m k) := y3.cell 5
      have u0 : (w4.alloc (.cells #[.int .i64 M, .bool false, .int .i64 0, .int .i64 0, .slice none 0 0] 35)).cell? ⟨w.heap.size, 0, none⟩ = some (.int .i64 M) := z2.cell 0
      have u1 : (w4.alloc (.cells #[.int .i64 M, .bool false, .int .i64 0, .int .i64 0, .slice none 0 0] 35)).cell? ⟨w.heap.size, 1, none⟩ = some (.bool true) := z2.cell 1
      have u2 : (w4.alloc (.cells #[.int .i64 M, .bool false, .int .i64 0, .int .i64 0, .slice none 0 0] 35)).cell? ⟨w.heap.size, 2, none⟩ = some (.int .i64 jap) := z2.cell 2
      have u3 : (w4.alloc (.cells #[.int .i64 M, .bool false, .int .i64 0, .int .i64 0, .slice none 0 0] 35)).cell? ⟨w.heap.size, 3, none⟩ = some (.int .i64 jct) := z2.cell 3
      have u4 : (w4.alloc (.cells #[.int .i64 M, .bool false, .int .i64 0, .int .i64 0, .slice none 0 0] 35)).cell? ⟨w.heap.size, 4, none⟩ = some (.slice A n c) := z2.cell 4
      have v0 : (w4.alloc (.cells #[.int .i64 M, .bool false, .int .i64 0, .int .i64 0, .slice none 0 0] 35)).cell? ⟨w.heap.size + 1, 0, none⟩ = some (.bool com) := z3.cell 0
      have v1 : (w4.alloc (.cells #[.int .i64 M, .bool false, .int .i64 0, .int .i64 0, .slice none 0 0] 35)).cell? ⟨w.heap.size + 1, 1, none⟩ = some (.bool sec) := z3.cell 1
      have v2 : (w4.alloc (.cells #[.int .i64 M, .bool false, .int .i64 0, .int .i64 0, .slice none 0 0] 35)).cell? ⟨w.heap.size + 1, 2, none⟩ = some (.int .i64 ap) := z3.cell 2
      have v3 : (w4.alloc (.cells #[.int .i64 M, .bool false, .int .i64 0, .int .i64 0, .slice none 0 0] 35)).cell? ⟨w.heap.size + 1, 3, none⟩ = some (.int .i64 _) := z3.cell 3
      have v4 : (w4.alloc (.cells #[.int .i64 M, .bool false, .int .i64 0, .int .i64 0, .slice none 0 0] 35)).cell? ⟨w.heap.size + 1, 4, none⟩ = some (.int .i64 ct) := z3.cell 4
      have v5 : (w4.alloc (.cells #[.int .i64 M, .bool false, .int .i64 0, .int .i64 0, .slice none 0 0] 35)).cell? ⟨w.heap.size + 1, 5, none⟩ = some (.slice a m k) := z3.cell 5
      have q0 : (w4.alloc (.cells #[.int .i64 M, .bool false, .int .i64 0, .int .i64 0, .slice none 0 0] 35)).cell? ⟨w.heap.size + 1 + 1, 0, none⟩ = some (.int .i64 0) := z4.cell 0
      have q1 : (w4.alloc (.cells #[.int .i64 M, .bool false, .int .i64 0, .int .i64 0, .slice none 0 0] 35)).cell? ⟨w.heap.size + 1 + 1, 1, none⟩ = some (.bool false) := z4.cell 1
      have q2 : (w4.alloc (.cells #[.int .i64 M, .bool false, .int .i64 0, .int .i64 0, .slice none 0 0] 35)).cell? ⟨w.heap.size + 1 + 1, 2, none⟩ = some (.int .i64 0) := z4.cell 2
      have q3 : (w4.alloc (.cells #[.int .i64 M, .bool false, .int .i64 0, .int .i64 0, .slice none 0 0] 35)).cell? ⟨w.heap.size + 1 + 1, 3, none⟩ = some (.int .i64 0) := z4.cell 3
      have q4 : (w4.alloc (.cells #[.int .i64 M, .bool false, .int .i64 0, .int .i64 0, .slice none 0 0] 35)).cell? ⟨w.heap.size + 1 + 1, 4, none⟩ = some (.slice none 0 0) := z4.cell 4
      have qf0 := z4.free 0
      have qf1 := z4.free 1
      have qf2 := z4.free 2
      have qf3 := z4.free 3
      have qf4 := z4.free 4
      have s0 : (w4.alloc (.cells #[.int .i64 M, .bool false, .int .i64 0, .int .i64 0, .slice none 0 0] 35)).cell? ⟨w4.heap.size, 0, none⟩ = some (.int .i64 M) := z8.cell 0
      have s1 : (w4.alloc (.cells #[.int .i64 M, .bool false, .int .i64 0, .int .i64 0, .slice none 0 0] 35)).cell? ⟨w4.heap.size, 1, none⟩ = some (.bool false) := z8.cell 1
      have s2 : (w4.alloc (.cells #[.int .i64 M, .bool false, .int .i64 0, .int .i64 0, .slice none 0 0] 35)).cell? ⟨w4.heap.size, 2, none⟩ = some (.int .i64 0) := z8.cell 2
      have s3 : (w4.alloc (.cells #[.int .i64 M, .bool false, .int .i64 0, .int .i64 0, .slice none 0 0] 35)).cell? ⟨w4.heap.size, 3, none⟩ = some (.int .i64 0) := z8.cell 3
      have s4 : (w4.alloc (.cells #[.int .i64 M, .bool false, .int .i64 0, .int .i64 0, .slice none 0 0] 35)).cell? ⟨w4.heap.size, 4, none⟩ = some (.slice none 0 0) := z8.cell 4
      clear y2 y3 y4 z2 z3 z8
      go_wp2
      exact bodyPost_ret (take_results rfl rfl rfl rfl (Cel.put5 z4 _ _ _ _ _)) rfl ⟨rfl, b7.trans ((only5 _ (w.heap.size + 1 + 1) _ _ _ _ _).below b7.size (fun x hx => by obtain rfl := List.mem_singleton.1 hx; omega))⟩
end Go.Proofs.Ytfjmlgclgmcjcaa.Par
