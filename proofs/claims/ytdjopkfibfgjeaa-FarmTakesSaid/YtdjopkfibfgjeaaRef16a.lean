/-
  The reference of layer 16: Right, New, control.
-/
import Derived.Test.YtdjopkfibfgjeaaFarmW2
import Derived.Test.YtdjopkfibfgjeaaRef04
import Derived.Test.YtdjopkfibfgjeaaRef14a
namespace Go.Proofs.Ytdjopkfibfgjeaa.Far
open Go.RowKit
open Pac (bel_new Cel.later)
open Tcf (Fr dir yvalid_any ydirective_any)

/-- a struct of eight cells stored whole over another -/
def put8 (w : World) (g : Nat) (v0 v1 v2 v3 v4 v5 v6 v7 : Value) : World :=
  (((((((w.setCell ⟨g, 0, none⟩ v0).setCell ⟨g, 1, none⟩ v1).setCell ⟨g, 2, none⟩ v2).setCell ⟨g, 3, none⟩ v3).setCell ⟨g, 4, none⟩ v4).setCell ⟨g, 5, none⟩ v5).setCell ⟨g, 6, none⟩ v6).setCell ⟨g, 7, none⟩ v7
theorem put8_cel {w : World} {g : Nat} {t : TypeId} {x0 x1 x2 x3 x4 x5 x6 x7 : Value} (h : Cel w g t #[x0, x1, x2, x3, x4, x5, x6, x7]) (v0 v1 v2 v3 v4 v5 v6 v7 : Value) : Cel (put8 w g v0 v1 v2 v3 v4 v5 v6 v7) g t #[v0, v1, v2, v3, v4, v5, v6, v7] := by
  unfold put8
  have h0 : Cel _ g t #[v0, x1, x2, x3, x4, x5, x6, x7] := h.put 0 v0
  have h1 : Cel _ g t #[v0, v1, x2, x3, x4, x5, x6, x7] := h0.put 1 v1
  have h2 : Cel _ g t #[v0, v1, v2, x3, x4, x5, x6, x7] := h1.put 2 v2
  have h3 : Cel _ g t #[v0, v1, v2, v3, x4, x5, x6, x7] := h2.put 3 v3
  have h4 : Cel _ g t #[v0, v1, v2, v3, v4, x5, x6, x7] := h3.put 4 v4
  have h5 : Cel _ g t #[v0, v1, v2, v3, v4, v5, x6, x7] := h4.put 5 v5
  have h6 : Cel _ g t #[v0, v1, v2, v3, v4, v5, v6, x7] := h5.put 6 v6
  exact h6.put 7 v7
theorem put8_only (w : World) (g : Nat) (v0 v1 v2 v3 v4 v5 v6 v7 : Value) : Only [g] w (put8 w g v0 v1 v2 v3 v4 v5 v6 v7) := by
  unfold put8
  exact only_then (only_then (only_then (only_then (only_then (only_then (only_then (put_only _ g 0 _) (put_only _ g 1 _)) (put_only _ g 2 _)) (put_only _ g 3 _)) (put_only _ g 4 _)) (put_only _ g 5 _)) (put_only _ g 6 _)) (put_only _ g 7 _)

section
set_option maxHeartbeats 400000 in
theorem right_yes (K H : Int) (w : World) (h0 : 0 ≤ K) (h1 : K ≤ 1023) (h2 : 0 ≤ H) (h3 : H ≤ 7) :
    Calls Try.prog 8 #[.int .i64 K, .int .i64 H] w fun e w' => e = .returned (.bool true) ∧ w = w' := by
  go_enter Try.func8, Try.ntmps8
  go_wp2
  go_ret
  exact ⟨rfl, rfl⟩
set_option maxHeartbeats 1000000 in
theorem right_no (K H : Int) (w : World) (h : K < 0 ∨ 1023 < K ∨ H < 0 ∨ 7 < H) :
    Calls Try.prog 8 #[.int .i64 K, .int .i64 H] w fun e w' => e = .returned (.bool false) ∧ w = w' := by
  by_cases h1 : K < 0
  · clear h
    go_enter Try.func8, Try.ntmps8
    go_wp2
    go_ret
    exact ⟨rfl, rfl⟩
  have p1 : 0 ≤ K := by omega
  by_cases h2 : 1023 < K
  · clear h h1
    go_enter Try.func8, Try.ntmps8
    go_wp2
    go_ret
    exact ⟨rfl, rfl⟩
  have p2 : K ≤ 1023 := by omega
  by_cases h3 : H < 0
  · clear h h1 h2
    go_enter Try.func8, Try.ntmps8
    go_wp2
    go_ret
    exact ⟨rfl, rfl⟩
  have p3 : 0 ≤ H := by omega
  have h4 : decide (H ≤ 7) = false := by simp; omega
  clear h h1 h2 h3
  go_enter Try.func8, Try.ntmps8
  go_wp2
  go_ret
  exact ⟨rfl, rfl⟩
end

theorem xnew_results {tmps : Array Value} {w' : World} {g : Nat} {K W H bc nx : Int} {lk wt rt : Bool} (h2 : tmps.getD 6 undef = .pointer (some ⟨g, 0, none⟩))
    (hC : Cel w' g 39 #[.int .i64 K, .int .i64 W, .int .i64 H, .bool lk, .bool wt, .bool rt, .int .i64 bc, .int .i64 nx]) :
    (results Try.f13 tmps).run Try.prog w' = .ok (.agg #[.int .i64 K, .int .i64 W, .int .i64 H, .bool lk, .bool wt, .bool rt, .int .i64 bc, .int .i64 nx]) w' := by
  have c0 := hC.cell 0
  have c1 := hC.cell 1
  have c2 := hC.cell 2
  have c3 := hC.cell 3
  have c4 := hC.cell 4
  have c5 := hC.cell 5
  have c6 := hC.cell 6
  have c7 := hC.cell 7
  simp at c0 c1 c2 c3 c4 c5 c6 c7
  simp only [Array.getD_eq_getD_getElem?] at h2
  simp [results, Try.results13, go_sem, h2, c0, c1, c2, c3, c4, c5, c6, c7]

set_option maxHeartbeats 1000000 in
theorem xnew_any (K H m : Int) (w : World) :
    Calls Try.prog 13 #[.int .i64 K, .int .i64 H, .int .i64 m] w fun e w' => e = .returned (.agg #[.int .i64 K, .int .i64 (clw m), .int .i64 H, .bool false, .bool false, .bool false, .int .i64 0, .int .i64 0]) ∧ Below w.heap.size w w' := by
  have hM : clw m = min (max m 1) 127 := rfl
  obtain ⟨W, hW⟩ : ∃ W, W = clw m := ⟨_, rfl⟩
  rw [← hW] at hM ⊢
  obtain ⟨M, hMM⟩ : ∃ M, M = max m 1 := ⟨_, rfl⟩
  have m1 : max m 1 = M := hMM.symm
  have m1' : (if m < 1 then (1 : Int) else m) = M := by split <;> omega
  have m2 : min M 127 = W := by omega
  have m2' : (if 127 < M then (127 : Int) else M) = W := by split <;> omega
  clear hM hW hMM
  go_enter Try.func13, Try.ntmps13
  go_wp2
  exact bodyPost_ret (xnew_results rfl (Cel.new _ _ _)) rfl ⟨rfl, bel_new _ _⟩
theorem xco_results {tmps : Array Value} {w' : World} {g : Nat} {v : Int} {K W H bc nx : Int} {lk wt rt : Bool} (h2 : tmps.getD 4 undef = .pointer (some ⟨g, 0, none⟩)) (h3 : tmps.getD 5 undef = .int .i64 v)
    (hC : Cel w' g 39 #[.int .i64 K, .int .i64 W, .int .i64 H, .bool lk, .bool wt, .bool rt, .int .i64 bc, .int .i64 nx]) :
    (results Try.f22 tmps).run Try.prog w' = .ok (.tuple #[.agg #[.int .i64 K, .int .i64 W, .int .i64 H, .bool lk, .bool wt, .bool rt, .int .i64 bc, .int .i64 nx], .int .i64 v]) w' := by
  have c0 := hC.cell 0
  have c1 := hC.cell 1
  have c2 := hC.cell 2
  have c3 := hC.cell 3
  have c4 := hC.cell 4
  have c5 := hC.cell 5
  have c6 := hC.cell 6
  have c7 := hC.cell 7
  simp at c0 c1 c2 c3 c4 c5 c6 c7
  simp only [Array.getD_eq_getD_getElem?] at h2 h3
  simp [results, Try.results22, go_sem, h2, h3, c0, c1, c2, c3, c4, c5, c6, c7]

set_option maxHeartbeats 4000000 in
theorem xcontrol_any (byp con : Bool) (cr ch sq : Int) (a : Option Addr) (l : List Byte) (n c : Nat) (w : World) (K H W : Int) (s : St) (hD : Rd w a l n c) (hok : s.Ok) :
    Calls Try.prog 22 #[.agg #[.int .i64 K, .int .i64 W, .int .i64 H, .bool s.lk, .bool s.wt, .bool s.rt, .int .i64 s.bc, .int .i64 s.nx], .agg #[.bool byp, .bool con, .int .i64 cr, .int .i64 ch, .int .i64 sq, .slice a n c]] w fun e w' => e = .returned (.tuple #[.agg #[.int .i64 K, .int .i64 W, .int .i64 H, .bool (oby s (dir byp con l)).2.lk, .bool (oby s (dir byp con l)).2.wt, .bool (oby s (dir byp con l)).2.rt, .int .i64 (oby s (dir byp con l)).2.bc, .int .i64 (oby s (dir byp con l)).2.nx], .int .i64 (oby s (dir byp con l)).1]) ∧ Below w.heap.size w w' := by
  have hdin := dir_in byp con l
  obtain ⟨lk, wt, rt, bc, nx⟩ := s
  obtain ⟨k1, k2, k3, k4⟩ := hok
  dsimp only at k1 k2 k3 k4 ⊢
  obtain ⟨wA, hwA⟩ : ∃ wA, wA = w.alloc (.cells #[.int .i64 K, .int .i64 W, .int .i64 H, .bool lk, .bool wt, .bool rt, .int .i64 bc, .int .i64 nx] 39) := ⟨_, rfl⟩
  have swA : wA.heap.size = w.heap.size + 1 := by rw [hwA]; simp
  have belwA : Below w.heap.size w wA := by rw [hwA]; exact bel_new _ _
  have pr0 : Cel wA w.heap.size 39 #[.int .i64 K, .int .i64 W, .int .i64 H, .bool lk, .bool wt, .bool rt, .int .i64 bc, .int .i64 nx] := by rw [hwA]; exact Cel.new _ _ _
  obtain ⟨wB, hwB⟩ : ∃ wB, wB = wA.alloc (.cells #[.bool byp, .bool con, .int .i64 cr, .int .i64 ch, .int .i64 sq, .slice a n c] 32) := ⟨_, rfl⟩
  have swB : wB.heap.size = w.heap.size + 2 := by rw [hwB]; simp [swA]
  have belwB : Below wA.heap.size wA wB := by rw [hwB]; exact bel_new _ _
  have pm1 : Cel wB (w.heap.size + 1) 32 #[.bool byp, .bool con, .int .i64 cr, .int .i64 ch, .int .i64 sq, .slice a n c] := by rw [← swA, hwB]; exact Cel.new _ _ _
  obtain ⟨wC, hwC⟩ : ∃ wC, wC = wB.alloc (.cells #[.int .i64 0, .int .i64 0, .int .i64 0, .bool false, .bool false, .bool false, .int .i64 0, .int .i64 0] 39) := ⟨_, rfl⟩
  have swC : wC.heap.size = w.heap.size + 3 := by rw [hwC]; simp [swB]
  have belwC : Below wB.heap.size wB wC := by rw [hwC]; exact bel_new _ _
  have pz2 : Cel wC (w.heap.size + 2) 39 #[.int .i64 0, .int .i64 0, .int .i64 0, .bool false, .bool false, .bool false, .int .i64 0, .int .i64 0] := by rw [← swB, hwC]; exact Cel.new _ _ _
  have pr := Cel.later (Cel.later pr0 belwB) belwC
  have pm := Cel.later pm1 belwC
  have pz := pz2
  have b3 : Below w.heap.size w wC := (belwA.trans (belwB.mono (by omega))).trans (belwC.mono (by omega))
  clear pr0 pm1 pz2 belwA belwB belwC swA swB swC
  rw [hwB, hwA] at hwC
  clear hwB hwA
  have x1 := ydirective_any byp con cr ch sq a l n c wC (hD.later b3)
  obtain ⟨d, hd⟩ : ∃ d, d = dir byp con l := ⟨_, rfl⟩
  rw [← hd] at x1 hdin ⊢
  obtain ⟨kd, nd, od⟩ := d
  dsimp only at x1 hdin
  have m0 := pm.cell 0
  have m1 := pm.cell 1
  have m2 := pm.cell 2
  have m3 := pm.cell 3
  have m4 := pm.cell 4
  have m5 := pm.cell 5
  simp at m0 m1 m2 m3 m4 m5
  rw [hwC] at m0 m1 m2 m3 m4 m5
  clear hd hD k3 k4
  cases od with
  | false =>
    have e : oby ⟨lk, wt, rt, bc, nx⟩ (kd, nd, false) = (0, ⟨lk, wt, rt, bc, nx⟩) := rfl
    rw [e]
    clear e hdin k1 k2
    go_enter Try.func22, Try.ntmps22
    go_wp2_with fail
    rw [← hwC]
    refine x1.mono ?_
    rintro e w4 ⟨rfl, h4⟩
    have b4 := b3.trans (h4.mono b3.size)
    have qr := Cel.later pr h4
    have qz := Cel.later pz h4
    clear x1 h4 pr pm pz m0 m1 m2 m3 m4 m5 hwC b3
    have r0 := qr.cell 0
    have r1 := qr.cell 1
    have r2 := qr.cell 2
    have r3 := qr.cell 3
    have r4 := qr.cell 4
    have r5 := qr.cell 5
    have r6 := qr.cell 6
    have r7 := qr.cell 7
    simp at r0 r1 r2 r3 r4 r5 r6 r7
    have g0 := qr.free 0
    have g1 := qr.free 1
    have g2 := qr.free 2
    have g3 := qr.free 3
    have g4 := qr.free 4
    have g5 := qr.free 5
    have g6 := qr.free 6
    have g7 := qr.free 7
    have z0 := qz.cell 0
    have z1 := qz.cell 1
    have z2 := qz.cell 2
    have z3 := qz.cell 3
    have z4 := qz.cell 4
    have z5 := qz.cell 5
    have z6 := qz.cell 6
    have z7 := qz.cell 7
    simp at z0 z1 z2 z3 z4 z5 z6 z7
    have y0 := qz.free 0
    have y1 := qz.free 1
    have y2 := qz.free 2
    have y3 := qz.free 3
    have y4 := qz.free 4
    have y5 := qz.free 5
    have y6 := qz.free 6
    have y7 := qz.free 7
    go_wp2
    exact bodyPost_ret (xco_results rfl rfl (put8_cel qz (.int .i64 K) (.int .i64 W) (.int .i64 H) (.bool lk) (.bool wt) (.bool rt) (.int .i64 bc) (.int .i64 nx))) rfl ⟨rfl, (b4).trans ((put8_only _ _ _ _ _ _ _ _ _ _).below (b4).size (fun x hx => by have := List.mem_singleton.1 hx; omega))⟩
  | true =>
    rcases hdin with rfl | ⟨rfl, n1, n2⟩
    · have e : oby ⟨lk, wt, rt, bc, nx⟩ (0, nd, true) = (5, ⟨false, false, false, (bc + 1) % 4, nx⟩) := rfl
      rw [e]
      dsimp only
      obtain ⟨B, hB⟩ : ∃ B, B = (bc + 1) % 4 := ⟨_, rfl⟩
      have tB : (bc + 1).tmod 4 = B := by rw [hB]; exact Int.tmod_eq_emod_of_nonneg (by omega)
      have tB' : (bc + 1) % 4 = B := hB.symm
      rw [← hB]
      clear e hB
      go_enter Try.func22, Try.ntmps22
      go_wp2_with fail
      rw [← hwC]
      refine x1.mono ?_
      rintro e w4 ⟨rfl, h4⟩
      have b4 := b3.trans (h4.mono b3.size)
      have qr := Cel.later pr h4
      have qz := Cel.later pz h4
      clear x1 h4 pr pm pz m0 m1 m2 m3 m4 m5 hwC b3
      have r0 := qr.cell 0
      have r1 := qr.cell 1
      have r2 := qr.cell 2
      have r3 := qr.cell 3
      have r4 := qr.cell 4
      have r5 := qr.cell 5
      have r6 := qr.cell 6
      have r7 := qr.cell 7
      simp at r0 r1 r2 r3 r4 r5 r6 r7
      have g0 := qr.free 0
      have g1 := qr.free 1
      have g2 := qr.free 2
      have g3 := qr.free 3
      have g4 := qr.free 4
      have g5 := qr.free 5
      have g6 := qr.free 6
      have g7 := qr.free 7
      have z0 := qz.cell 0
      have z1 := qz.cell 1
      have z2 := qz.cell 2
      have z3 := qz.cell 3
      have z4 := qz.cell 4
      have z5 := qz.cell 5
      have z6 := qz.cell 6
      have z7 := qz.cell 7
      simp at z0 z1 z2 z3 z4 z5 z6 z7
      have y0 := qz.free 0
      have y1 := qz.free 1
      have y2 := qz.free 2
      have y3 := qz.free 3
      have y4 := qz.free 4
      have y5 := qz.free 5
      have y6 := qz.free 6
      have y7 := qz.free 7
      have o5 : Only [w.heap.size] w4 ((((w4.setCell ⟨w.heap.size, 3, none⟩ (.bool false)).setCell ⟨w.heap.size, 4, none⟩ (.bool false)).setCell ⟨w.heap.size, 5, none⟩ (.bool false)).setCell ⟨w.heap.size, 6, none⟩ (.int .i64 B)) := only_then (only_then (only_then (put_only _ _ 3 _) (put_only _ _ 4 _)) (put_only _ _ 5 _)) (put_only _ _ 6 _)
      have b5 := b4.trans (o5.below b4.size (by simp))
      have q5 := qz.only o5 (by simp)
      clear o5
      go_wp2
      exact bodyPost_ret (xco_results rfl rfl (put8_cel q5 (.int .i64 K) (.int .i64 W) (.int .i64 H) (.bool false) (.bool false) (.bool false) (.int .i64 B) (.int .i64 nx))) rfl ⟨rfl, (b5).trans ((put8_only _ _ _ _ _ _ _ _ _ _).below (b5).size (fun x hx => by have := List.mem_singleton.1 hx; omega))⟩
    · cases lk with
      | true =>
        have e : oby ⟨true, wt, rt, bc, nx⟩ (1, nd, true) = (4, ⟨true, wt, rt, bc, nx⟩) := rfl
        rw [e]
        clear e n1 n2 k1 k2
        go_enter Try.func22, Try.ntmps22
        go_wp2_with fail
        rw [← hwC]
        refine x1.mono ?_
        rintro e w4 ⟨rfl, h4⟩
        have b4 := b3.trans (h4.mono b3.size)
        have qr := Cel.later pr h4
        have qz := Cel.later pz h4
        clear x1 h4 pr pm pz m0 m1 m2 m3 m4 m5 hwC b3
        have r0 := qr.cell 0
        have r1 := qr.cell 1
        have r2 := qr.cell 2
        have r3 := qr.cell 3
        have r4 := qr.cell 4
        have r5 := qr.cell 5
        have r6 := qr.cell 6
        have r7 := qr.cell 7
        simp at r0 r1 r2 r3 r4 r5 r6 r7
        have g0 := qr.free 0
        have g1 := qr.free 1
        have g2 := qr.free 2
        have g3 := qr.free 3
        have g4 := qr.free 4
        have g5 := qr.free 5
        have g6 := qr.free 6
        have g7 := qr.free 7
        have z0 := qz.cell 0
        have z1 := qz.cell 1
        have z2 := qz.cell 2
        have z3 := qz.cell 3
        have z4 := qz.cell 4
        have z5 := qz.cell 5
        have z6 := qz.cell 6
        have z7 := qz.cell 7
        simp at z0 z1 z2 z3 z4 z5 z6 z7
        have y0 := qz.free 0
        have y1 := qz.free 1
        have y2 := qz.free 2
        have y3 := qz.free 3
        have y4 := qz.free 4
        have y5 := qz.free 5
        have y6 := qz.free 6
        have y7 := qz.free 7
        go_wp2
        exact bodyPost_ret (xco_results rfl rfl (put8_cel qz (.int .i64 K) (.int .i64 W) (.int .i64 H) (.bool true) (.bool wt) (.bool rt) (.int .i64 bc) (.int .i64 nx))) rfl ⟨rfl, (b4).trans ((put8_only _ _ _ _ _ _ _ _ _ _).below (b4).size (fun x hx => by have := List.mem_singleton.1 hx; omega))⟩
      | false =>
        have e : oby ⟨false, wt, rt, bc, nx⟩ (1, nd, true) = (5, ⟨false, false, false, (bc + 1) % 4, nd⟩) := rfl
        rw [e]
        dsimp only
        obtain ⟨B, hB⟩ : ∃ B, B = (bc + 1) % 4 := ⟨_, rfl⟩
        have tB : (bc + 1).tmod 4 = B := by rw [hB]; exact Int.tmod_eq_emod_of_nonneg (by omega)
        have tB' : (bc + 1) % 4 = B := hB.symm
        rw [← hB]
        clear e hB n1 n2
        go_enter Try.func22, Try.ntmps22
        go_wp2_with fail
        rw [← hwC]
        refine x1.mono ?_
        rintro e w4 ⟨rfl, h4⟩
        have b4 := b3.trans (h4.mono b3.size)
        have qr := Cel.later pr h4
        have qz := Cel.later pz h4
        clear x1 h4 pr pm pz m0 m1 m2 m3 m4 m5 hwC b3
        have r0 := qr.cell 0
        have r1 := qr.cell 1
        have r2 := qr.cell 2
        have r3 := qr.cell 3
        have r4 := qr.cell 4
        have r5 := qr.cell 5
        have r6 := qr.cell 6
        have r7 := qr.cell 7
        simp at r0 r1 r2 r3 r4 r5 r6 r7
        have g0 := qr.free 0
        have g1 := qr.free 1
        have g2 := qr.free 2
        have g3 := qr.free 3
        have g4 := qr.free 4
        have g5 := qr.free 5
        have g6 := qr.free 6
        have g7 := qr.free 7
        have z0 := qz.cell 0
        have z1 := qz.cell 1
        have z2 := qz.cell 2
        have z3 := qz.cell 3
        have z4 := qz.cell 4
        have z5 := qz.cell 5
        have z6 := qz.cell 6
        have z7 := qz.cell 7
        simp at z0 z1 z2 z3 z4 z5 z6 z7
        have y0 := qz.free 0
        have y1 := qz.free 1
        have y2 := qz.free 2
        have y3 := qz.free 3
        have y4 := qz.free 4
        have y5 := qz.free 5
        have y6 := qz.free 6
        have y7 := qz.free 7
        have o5 : Only [w.heap.size] w4 (((((w4.setCell ⟨w.heap.size, 7, none⟩ (.int .i64 nd)).setCell ⟨w.heap.size, 3, none⟩ (.bool false)).setCell ⟨w.heap.size, 4, none⟩ (.bool false)).setCell ⟨w.heap.size, 5, none⟩ (.bool false)).setCell ⟨w.heap.size, 6, none⟩ (.int .i64 B)) := only_then (only_then (only_then (only_then (put_only _ _ 7 _) (put_only _ _ 3 _)) (put_only _ _ 4 _)) (put_only _ _ 5 _)) (put_only _ _ 6 _)
        have b5 := b4.trans (o5.below b4.size (by simp))
        have q5 := qz.only o5 (by simp)
        clear o5
        go_wp2
        exact bodyPost_ret (xco_results rfl rfl (put8_cel q5 (.int .i64 K) (.int .i64 W) (.int .i64 H) (.bool false) (.bool false) (.bool false) (.int .i64 B) (.int .i64 nd))) rfl ⟨rfl, (b5).trans ((put8_only _ _ _ _ _ _ _ _ _ _).below (b5).size (fun x hx => by have := List.mem_singleton.1 hx; omega))⟩
end Go.Proofs.Ytdjopkfibfgjeaa.Far
