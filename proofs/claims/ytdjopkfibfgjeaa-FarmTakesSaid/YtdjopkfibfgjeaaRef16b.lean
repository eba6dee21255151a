/-
  The reference of layer 16: Take.
-/
import Derived.Test.YtdjopkfibfgjeaaRef16a
namespace Go.Proofs.Ytdjopkfibfgjeaa.Far
open Go.RowKit
open Pac (bel_new Cel.later)
open Tcf (Fr dir yvalid_any ydirective_any)

theorem xta_results {tmps : Array Value} {w' : World} {g : Nat} {v : Int} {K W H bc nx : Int} {lk wt rt : Bool} (h2 : tmps.getD 6 undef = .pointer (some ⟨g, 0, none⟩)) (h3 : tmps.getD 7 undef = .int .i64 v)
    (hC : Cel w' g 39 #[.int .i64 K, .int .i64 W, .int .i64 H, .bool lk, .bool wt, .bool rt, .int .i64 bc, .int .i64 nx]) :
    (results Try.f14 tmps).run Try.prog w' = .ok (.tuple #[.agg #[.int .i64 K, .int .i64 W, .int .i64 H, .bool lk, .bool wt, .bool rt, .int .i64 bc, .int .i64 nx], .int .i64 v]) w' := by
  have c0 := hC.cell 0
  have c1 := hC.cell 1
  have c2 := hC.cell 2
  have c3 := hC.cell 3
  have c4 := hC.cell 4
  have c5 := hC.cell 5
  have c6 := hC.cell 6
  have c7 := hC.cell 7
  simp at c0 c1 c2 c3 c4 c5 c6 c7
  simp only [Array.getD_eq_getD_getElem?] at h2 h3
  simp [results, Try.results14, go_sem, h2, h3, c0, c1, c2, c3, c4, c5, c6, c7]

set_option maxHeartbeats 8000000 in
theorem xtake_any (byp con : Bool) (cr ch sq : Int) (a : Option Addr) (l : List Byte) (n c : Nat) (w : World) (K H W : Int) (room : Bool) (s : St) (hD : Rd w a l n c) (hok : s.Ok) (i1 : 1 ≤ W) (i2 : W ≤ 127) :
    Calls Try.prog 14 #[.agg #[.int .i64 K, .int .i64 W, .int .i64 H, .bool s.lk, .bool s.wt, .bool s.rt, .int .i64 s.bc, .int .i64 s.nx], .agg #[.bool byp, .bool con, .int .i64 cr, .int .i64 ch, .int .i64 sq, .slice a n c], .bool room] w fun e w' => e = .returned (.tuple #[.agg #[.int .i64 K, .int .i64 W, .int .i64 H, .bool (tke K H W s ⟨byp, con, cr, ch, sq, l⟩ room).2.lk, .bool (tke K H W s ⟨byp, con, cr, ch, sq, l⟩ room).2.wt, .bool (tke K H W s ⟨byp, con, cr, ch, sq, l⟩ room).2.rt, .int .i64 (tke K H W s ⟨byp, con, cr, ch, sq, l⟩ room).2.bc, .int .i64 (tke K H W s ⟨byp, con, cr, ch, sq, l⟩ room).2.nx], .int .i64 (tke K H W s ⟨byp, con, cr, ch, sq, l⟩ room).1]) ∧ Below w.heap.size w w' := by
  obtain ⟨lk, wt, rt, bc, nx⟩ := s
  have hok0 := hok
  obtain ⟨k1, k2, k3, k4⟩ := hok
  dsimp only at k1 k2 k3 k4 ⊢
  obtain ⟨wA, hwA⟩ : ∃ wA, wA = w.alloc (.cells #[.int .i64 K, .int .i64 W, .int .i64 H, .bool lk, .bool wt, .bool rt, .int .i64 bc, .int .i64 nx] 39) := ⟨_, rfl⟩
  have swA : wA.heap.size = w.heap.size + 1 := by rw [hwA]; simp
  have belwA : Below w.heap.size w wA := by rw [hwA]; exact bel_new _ _
  have pr0 : Cel wA w.heap.size 39 #[.int .i64 K, .int .i64 W, .int .i64 H, .bool lk, .bool wt, .bool rt, .int .i64 bc, .int .i64 nx] := by rw [hwA]; exact Cel.new _ _ _
  obtain ⟨wB, hwB⟩ : ∃ wB, wB = wA.alloc (.cells #[.bool byp, .bool con, .int .i64 cr, .int .i64 ch, .int .i64 sq, .slice a n c] 32) := ⟨_, rfl⟩
  have swB : wB.heap.size = w.heap.size + 2 := by rw [hwB]; simp [swA]
  have belwB : Below wA.heap.size wA wB := by rw [hwB]; exact bel_new _ _
  have pm1 : Cel wB (w.heap.size + 1) 32 #[.bool byp, .bool con, .int .i64 cr, .int .i64 ch, .int .i64 sq, .slice a n c] := by rw [← swA, hwB]; exact Cel.new _ _ _
  obtain ⟨wC, hwC⟩ : ∃ wC, wC = wB.alloc (.cells #[.int .i64 0, .int .i64 0, .int .i64 0, .bool false, .bool false, .bool false, .int .i64 0, .int .i64 0] 39) := ⟨_, rfl⟩
  have swC : wC.heap.size = w.heap.size + 3 := by rw [hwC]; simp [swB]
  have belwC : Below wB.heap.size wB wC := by rw [hwC]; exact bel_new _ _
  have pz2 : Cel wC (w.heap.size + 2) 39 #[.int .i64 0, .int .i64 0, .int .i64 0, .bool false, .bool false, .bool false, .int .i64 0, .int .i64 0] := by rw [← swB, hwC]; exact Cel.new _ _ _
  have pr := Cel.later (Cel.later pr0 belwB) belwC
  have pm := Cel.later pm1 belwC
  have pz := pz2
  have b3 : Below w.heap.size w wC := (belwA.trans (belwB.mono (by omega))).trans (belwC.mono (by omega))
  clear pr0 pm1 pz2 belwA belwB belwC swA swB swC
  rw [hwB, hwA] at hwC
  clear hwB hwA
  have x1 := yvalid_any byp con cr ch sq a l n c wC (Lib.hid hD.len) (Nat.le_trans hD.le hD.max)
  have hd3 := hD.later b3
  have m0 := pm.cell 0
  have m1 := pm.cell 1
  have m2 := pm.cell 2
  have m3 := pm.cell 3
  have m4 := pm.cell 4
  have m5 := pm.cell 5
  simp at m0 m1 m2 m3 m4 m5
  rw [hwC] at m0 m1 m2 m3 m4 m5
  have r0 := pr.cell 0
  have r1 := pr.cell 1
  have r2 := pr.cell 2
  have r3 := pr.cell 3
  have r4 := pr.cell 4
  have r5 := pr.cell 5
  have r6 := pr.cell 6
  have r7 := pr.cell 7
  simp at r0 r1 r2 r3 r4 r5 r6 r7
  rw [hwC] at r0 r1 r2 r3 r4 r5 r6 r7
  obtain ⟨V, hV⟩ : ∃ V, V = Fr.ok ⟨byp, con, cr, ch, sq, l⟩ := ⟨_, rfl⟩
  rw [← hV] at x1
  have hM : mine K H ⟨byp, con, cr, ch, sq, l⟩ = (V && cr == K && ch == H) := by rw [hV]; rfl
  cases V with
  | false =>
    have hM2 : mine K H ⟨byp, con, cr, ch, sq, l⟩ = false := by rw [hM]; rfl
    have e : tke K H W ⟨lk, wt, rt, bc, nx⟩ ⟨byp, con, cr, ch, sq, l⟩ room = (0, ⟨lk, wt, rt, bc, nx⟩) := by unfold tke; rw [hM2]; rfl
    rw [e]
    dsimp only
    clear e hM hM2 hV i1 i2 k1 k2 k3 k4 hD
    go_enter Try.func14, Try.ntmps14
    go_wp2_with fail
    rw [← hwC]
    refine x1.mono ?_
    rintro e w4 ⟨rfl, h4⟩
    have b4 := b3.trans (h4.mono b3.size)
    have qr := Cel.later pr h4
    have qm := Cel.later pm h4
    have qz := Cel.later pz h4
    have qd := hd3.later h4
    clear x1 h4 pr pm pz m0 m1 m2 m3 m4 m5 r0 r1 r2 r3 r4 r5 r6 r7 hwC b3 hd3
    have r0 := qr.cell 0
    have r1 := qr.cell 1
    have r2 := qr.cell 2
    have r3 := qr.cell 3
    have r4 := qr.cell 4
    have r5 := qr.cell 5
    have r6 := qr.cell 6
    have r7 := qr.cell 7
    simp at r0 r1 r2 r3 r4 r5 r6 r7
    have g0 := qr.free 0
    have g1 := qr.free 1
    have g2 := qr.free 2
    have g3 := qr.free 3
    have g4 := qr.free 4
    have g5 := qr.free 5
    have g6 := qr.free 6
    have g7 := qr.free 7
    have z0 := qz.cell 0
    have z1 := qz.cell 1
    have z2 := qz.cell 2
    have z3 := qz.cell 3
    have z4 := qz.cell 4
    have z5 := qz.cell 5
    have z6 := qz.cell 6
    have z7 := qz.cell 7
    simp at z0 z1 z2 z3 z4 z5 z6 z7
    have y0 := qz.free 0
    have y1 := qz.free 1
    have y2 := qz.free 2
    have y3 := qz.free 3
    have y4 := qz.free 4
    have y5 := qz.free 5
    have y6 := qz.free 6
    have y7 := qz.free 7
    have m0 := qm.cell 0
    have m1 := qm.cell 1
    have m2 := qm.cell 2
    have m3 := qm.cell 3
    have m4 := qm.cell 4
    have m5 := qm.cell 5
    simp at m0 m1 m2 m3 m4 m5
    go_wp2
    exact bodyPost_ret (xta_results rfl rfl (put8_cel qz (.int .i64 K) (.int .i64 W) (.int .i64 H) (.bool lk) (.bool wt) (.bool rt) (.int .i64 bc) (.int .i64 nx))) rfl ⟨rfl, (b4).trans ((put8_only _ _ _ _ _ _ _ _ _ _).below (b4).size (fun x hx => by have := List.mem_singleton.1 hx; omega))⟩
  | true =>
    have hF := Fr.ok_fits hV.symm
    have q0 : 0 ≤ sq := hF.2.2.2.2.1
    have q1 : sq ≤ 255 := hF.2.2.2.2.2.1
    clear hF hV
    by_cases h1 : cr = K
    · have t1 : (cr == K) = true := by simpa using h1
      have t1' : (cr != K) = false := by simpa using h1
      rw [t1] at hM
      clear h1
      by_cases h2 : ch = H
      · have t2 : (ch == H) = true := by simpa using h2
        have t2' : (ch != H) = false := by simpa using h2
        rw [t2] at hM
        clear h2
        have hM2 : mine K H ⟨byp, con, cr, ch, sq, l⟩ = true := by rw [hM]; rfl
        have eT : tke K H W ⟨lk, wt, rt, bc, nx⟩ ⟨byp, con, cr, ch, sq, l⟩ room = jdg W ⟨lk, wt, rt, bc, nx⟩ ⟨byp, con, cr, ch, sq, l⟩ room := by unfold tke; rw [hM2]; rfl
        clear hM hM2
        cases con with
        | true =>
          have xc := fun W' (h : Rd W' a l n c) => xcontrol_any byp true cr ch sq a l n c W' K H W ⟨lk, wt, rt, bc, nx⟩ h hok0
          rw [eT, show jdg W ⟨lk, wt, rt, bc, nx⟩ ⟨byp, true, cr, ch, sq, l⟩ room = oby ⟨lk, wt, rt, bc, nx⟩ (dir byp true l) from rfl]
          obtain ⟨R, hR⟩ : ∃ R, R = oby ⟨lk, wt, rt, bc, nx⟩ (dir byp true l) := ⟨_, rfl⟩
          simp only [← hR] at xc ⊢
          clear eT hR i1 i2 k1 k2 k3 k4 hD q0 q1 hok0
          obtain ⟨V, lk', wt', rt', bc', nx'⟩ := R
          dsimp only at xc ⊢
          go_enter Try.func14, Try.ntmps14
          go_wp2_with fail
          rw [← hwC]
          refine x1.mono ?_
          rintro e w4 ⟨rfl, h4⟩
          have b4 := b3.trans (h4.mono b3.size)
          have qr := Cel.later pr h4
          have qm := Cel.later pm h4
          have qz := Cel.later pz h4
          have qd := hd3.later h4
          clear x1 h4 pr pm pz m0 m1 m2 m3 m4 m5 r0 r1 r2 r3 r4 r5 r6 r7 hwC b3 hd3
          have r0 := qr.cell 0
          have r1 := qr.cell 1
          have r2 := qr.cell 2
          have r3 := qr.cell 3
          have r4 := qr.cell 4
          have r5 := qr.cell 5
          have r6 := qr.cell 6
          have r7 := qr.cell 7
          simp at r0 r1 r2 r3 r4 r5 r6 r7
          have g0 := qr.free 0
          have g1 := qr.free 1
          have g2 := qr.free 2
          have g3 := qr.free 3
          have g4 := qr.free 4
          have g5 := qr.free 5
          have g6 := qr.free 6
          have g7 := qr.free 7
          have z0 := qz.cell 0
          have z1 := qz.cell 1
          have z2 := qz.cell 2
          have z3 := qz.cell 3
          have z4 := qz.cell 4
          have z5 := qz.cell 5
          have z6 := qz.cell 6
          have z7 := qz.cell 7
          simp at z0 z1 z2 z3 z4 z5 z6 z7
          have y0 := qz.free 0
          have y1 := qz.free 1
          have y2 := qz.free 2
          have y3 := qz.free 3
          have y4 := qz.free 4
          have y5 := qz.free 5
          have y6 := qz.free 6
          have y7 := qz.free 7
          have m0 := qm.cell 0
          have m1 := qm.cell 1
          have m2 := qm.cell 2
          have m3 := qm.cell 3
          have m4 := qm.cell 4
          have m5 := qm.cell 5
          simp at m0 m1 m2 m3 m4 m5
          go_wp2_with fail
          refine (xc w4 qd).mono ?_
          rintro e w5 ⟨rfl, h5⟩
          have b5 := b4.trans (h5.mono b4.size)
          have q5 := Cel.later qz h5
          clear r0 r1 r2 r3 r4 r5 r6 r7 g0 g1 g2 g3 g4 g5 g6 g7 z0 z1 z2 z3 z4 z5 z6 z7 y0 y1 y2 y3 y4 y5 y6 y7 m0 m1 m2 m3 m4 m5
          have z0 := q5.cell 0
          have z1 := q5.cell 1
          have z2 := q5.cell 2
          have z3 := q5.cell 3
          have z4 := q5.cell 4
          have z5 := q5.cell 5
          have z6 := q5.cell 6
          have z7 := q5.cell 7
          simp at z0 z1 z2 z3 z4 z5 z6 z7
          have y0 := q5.free 0
          have y1 := q5.free 1
          have y2 := q5.free 2
          have y3 := q5.free 3
          have y4 := q5.free 4
          have y5 := q5.free 5
          have y6 := q5.free 6
          have y7 := q5.free 7
          go_wp2
          exact bodyPost_ret (xta_results rfl rfl (put8_cel q5 (.int .i64 K) (.int .i64 W) (.int .i64 H) (.bool lk') (.bool wt') (.bool rt') (.int .i64 bc') (.int .i64 nx'))) rfl ⟨rfl, (b5).trans ((put8_only _ _ _ _ _ _ _ _ _ _).below (b5).size (fun x hx => by have := List.mem_singleton.1 hx; omega))⟩
        | false =>
          cases byp with
          | true =>
            rw [eT, show jdg W ⟨lk, wt, rt, bc, nx⟩ ⟨true, false, cr, ch, sq, l⟩ room = (1, ⟨lk, wt, rt, (bc + 1) % 4, nx⟩) from rfl]
            dsimp only
            obtain ⟨B, hB⟩ : ∃ B, B = (bc + 1) % 4 := ⟨_, rfl⟩
            have tB : (bc + 1).tmod 4 = B := by rw [hB]; exact Int.tmod_eq_emod_of_nonneg (by omega)
            have tB' : (bc + 1) % 4 = B := hB.symm
            rw [← hB]
            clear eT hB i1 i2 k3 k4 hD q0 q1
            go_enter Try.func14, Try.ntmps14
            go_wp2_with fail
            rw [← hwC]
            refine x1.mono ?_
            rintro e w4 ⟨rfl, h4⟩
            have b4 := b3.trans (h4.mono b3.size)
            have qr := Cel.later pr h4
            have qm := Cel.later pm h4
            have qz := Cel.later pz h4
            have qd := hd3.later h4
            clear x1 h4 pr pm pz m0 m1 m2 m3 m4 m5 r0 r1 r2 r3 r4 r5 r6 r7 hwC b3 hd3
            have r0 := qr.cell 0
            have r1 := qr.cell 1
            have r2 := qr.cell 2
            have r3 := qr.cell 3
            have r4 := qr.cell 4
            have r5 := qr.cell 5
            have r6 := qr.cell 6
            have r7 := qr.cell 7
            simp at r0 r1 r2 r3 r4 r5 r6 r7
            have g0 := qr.free 0
            have g1 := qr.free 1
            have g2 := qr.free 2
            have g3 := qr.free 3
            have g4 := qr.free 4
            have g5 := qr.free 5
            have g6 := qr.free 6
            have g7 := qr.free 7
            have z0 := qz.cell 0
            have z1 := qz.cell 1
            have z2 := qz.cell 2
            have z3 := qz.cell 3
            have z4 := qz.cell 4
            have z5 := qz.cell 5
            have z6 := qz.cell 6
            have z7 := qz.cell 7
            simp at z0 z1 z2 z3 z4 z5 z6 z7
            have y0 := qz.free 0
            have y1 := qz.free 1
            have y2 := qz.free 2
            have y3 := qz.free 3
            have y4 := qz.free 4
            have y5 := qz.free 5
            have y6 := qz.free 6
            have y7 := qz.free 7
            have m0 := qm.cell 0
            have m1 := qm.cell 1
            have m2 := qm.cell 2
            have m3 := qm.cell 3
            have m4 := qm.cell 4
            have m5 := qm.cell 5
            simp at m0 m1 m2 m3 m4 m5
            have o5 : Only [w.heap.size] w4 (w4.setCell ⟨w.heap.size, 6, none⟩ (.int .i64 B)) := put_only _ _ 6 _
            have b5 := b4.trans (o5.below b4.size (by simp))
            have q5 := qz.only o5 (by simp)
            clear o5
            go_wp2
            exact bodyPost_ret (xta_results rfl rfl (put8_cel q5 (.int .i64 K) (.int .i64 W) (.int .i64 H) (.bool lk) (.bool wt) (.bool rt) (.int .i64 B) (.int .i64 nx))) rfl ⟨rfl, (b5).trans ((put8_only _ _ _ _ _ _ _ _ _ _).below (b5).size (fun x hx => by have := List.mem_singleton.1 hx; omega))⟩
          | false =>
            have eJ : jdg W ⟨lk, wt, rt, bc, nx⟩ ⟨false, false, cr, ch, sq, l⟩ room = if lk then (4, ⟨lk, wt, rt, bc, nx⟩) else rcv W ⟨lk, wt, rt, bc, nx⟩ sq room := rfl
            rw [eT, eJ]
            clear eT eJ hD
            cases lk with
            | true =>
              rw [if_pos rfl]
              clear i1 i2 k1 k2 k3 k4 q0 q1
              go_enter Try.func14, Try.ntmps14
              go_wp2_with fail
              rw [← hwC]
              refine x1.mono ?_
              rintro e w4 ⟨rfl, h4⟩
              have b4 := b3.trans (h4.mono b3.size)
              have qr := Cel.later pr h4
              have qm := Cel.later pm h4
              have qz := Cel.later pz h4
              have qd := hd3.later h4
              clear x1 h4 pr pm pz m0 m1 m2 m3 m4 m5 r0 r1 r2 r3 r4 r5 r6 r7 hwC b3 hd3
              have r0 := qr.cell 0
              have r1 := qr.cell 1
              have r2 := qr.cell 2
              have r3 := qr.cell 3
              have r4 := qr.cell 4
              have r5 := qr.cell 5
              have r6 := qr.cell 6
              have r7 := qr.cell 7
              simp at r0 r1 r2 r3 r4 r5 r6 r7
              have g0 := qr.free 0
              have g1 := qr.free 1
              have g2 := qr.free 2
              have g3 := qr.free 3
              have g4 := qr.free 4
              have g5 := qr.free 5
              have g6 := qr.free 6
              have g7 := qr.free 7
              have z0 := qz.cell 0
              have z1 := qz.cell 1
              have z2 := qz.cell 2
              have z3 := qz.cell 3
              have z4 := qz.cell 4
              have z5 := qz.cell 5
              have z6 := qz.cell 6
              have z7 := qz.cell 7
              simp at z0 z1 z2 z3 z4 z5 z6 z7
              have y0 := qz.free 0
              have y1 := qz.free 1
              have y2 := qz.free 2
              have y3 := qz.free 3
              have y4 := qz.free 4
              have y5 := qz.free 5
              have y6 := qz.free 6
              have y7 := qz.free 7
              have m0 := qm.cell 0
              have m1 := qm.cell 1
              have m2 := qm.cell 2
              have m3 := qm.cell 3
              have m4 := qm.cell 4
              have m5 := qm.cell 5
              simp at m0 m1 m2 m3 m4 m5
              go_wp2
              exact bodyPost_ret (xta_results rfl rfl (put8_cel qz (.int .i64 K) (.int .i64 W) (.int .i64 H) (.bool true) (.bool wt) (.bool rt) (.int .i64 bc) (.int .i64 nx))) rfl ⟨rfl, (b4).trans ((put8_only _ _ _ _ _ _ _ _ _ _).below (b4).size (fun x hx => by have := List.mem_singleton.1 hx; omega))⟩
            | false =>
              rw [if_neg (by decide)]
              by_cases hq : sq = nx
              · subst hq
                have hb : (sq == sq) = true := by simp
                cases room with
                | true =>
                  have e : rcv W ⟨false, wt, rt, bc, sq⟩ sq true = (1, ⟨false, false, false, bc, (sq + 1) % 256⟩) := by unfold rcv; simp
                  rw [e]
                  dsimp only
                  obtain ⟨N, hN⟩ : ∃ N, N = (sq + 1) % 256 := ⟨_, rfl⟩
                  have tN : (sq + 1).tmod 256 = N := by rw [hN]; exact Int.tmod_eq_emod_of_nonneg (by omega)
                  have tN' : (sq + 1) % 256 = N := hN.symm
                  rw [← hN]
                  clear e hN i1 i2 k1 k2 q0 q1
                  go_enter Try.func14, Try.ntmps14
                  go_wp2_with fail
                  rw [← hwC]
                  refine x1.mono ?_
                  rintro e w4 ⟨rfl, h4⟩
                  have b4 := b3.trans (h4.mono b3.size)
                  have qr := Cel.later pr h4
                  have qm := Cel.later pm h4
                  have qz := Cel.later pz h4
                  have qd := hd3.later h4
                  clear x1 h4 pr pm pz m0 m1 m2 m3 m4 m5 r0 r1 r2 r3 r4 r5 r6 r7 hwC b3 hd3
                  have r0 := qr.cell 0
                  have r1 := qr.cell 1
                  have r2 := qr.cell 2
                  have r3 := qr.cell 3
                  have r4 := qr.cell 4
                  have r5 := qr.cell 5
                  have r6 := qr.cell 6
                  have r7 := qr.cell 7
                  simp at r0 r1 r2 r3 r4 r5 r6 r7
                  have g0 := qr.free 0
                  have g1 := qr.free 1
                  have g2 := qr.free 2
                  have g3 := qr.free 3
                  have g4 := qr.free 4
                  have g5 := qr.free 5
                  have g6 := qr.free 6
                  have g7 := qr.free 7
                  have z0 := qz.cell 0
                  have z1 := qz.cell 1
                  have z2 := qz.cell 2
                  have z3 := qz.cell 3
                  have z4 := qz.cell 4
                  have z5 := qz.cell 5
                  have z6 := qz.cell 6
                  have z7 := qz.cell 7
                  simp at z0 z1 z2 z3 z4 z5 z6 z7
                  have y0 := qz.free 0
                  have y1 := qz.free 1
                  have y2 := qz.free 2
                  have y3 := qz.free 3
                  have y4 := qz.free 4
                  have y5 := qz.free 5
                  have y6 := qz.free 6
                  have y7 := qz.free 7
                  have m0 := qm.cell 0
                  have m1 := qm.cell 1
                  have m2 := qm.cell 2
                  have m3 := qm.cell 3
                  have m4 := qm.cell 4
                  have m5 := qm.cell 5
                  simp at m0 m1 m2 m3 m4 m5
                  have o5 : Only [w.heap.size] w4 (((w4.setCell ⟨w.heap.size, 7, none⟩ (.int .i64 N)).setCell ⟨w.heap.size, 4, none⟩ (.bool false)).setCell ⟨w.heap.size, 5, none⟩ (.bool false)) := only_then (only_then (put_only _ _ 7 _) (put_only _ _ 4 _)) (put_only _ _ 5 _)
                  have b5 := b4.trans (o5.below b4.size (by simp))
                  have q5 := qz.only o5 (by simp)
                  clear o5
                  go_wp2
                  exact bodyPost_ret (xta_results rfl rfl (put8_cel q5 (.int .i64 K) (.int .i64 W) (.int .i64 H) (.bool false) (.bool false) (.bool false) (.int .i64 bc) (.int .i64 N))) rfl ⟨rfl, (b5).trans ((put8_only _ _ _ _ _ _ _ _ _ _).below (b5).size (fun x hx => by have := List.mem_singleton.1 hx; omega))⟩
                | false =>
                  have e : rcv W ⟨false, wt, rt, bc, sq⟩ sq false = (6, ⟨false, true, true, bc, sq⟩) := by unfold rcv; simp
                  rw [e]
                  dsimp only
                  clear e i1 i2 k1 k2 k3 k4 q0 q1
                  go_enter Try.func14, Try.ntmps14
                  go_wp2_with fail
                  rw [← hwC]
                  refine x1.mono ?_
                  rintro e w4 ⟨rfl, h4⟩
                  have b4 := b3.trans (h4.mono b3.size)
                  have qr := Cel.later pr h4
                  have qm := Cel.later pm h4
                  have qz := Cel.later pz h4
                  have qd := hd3.later h4
                  clear x1 h4 pr pm pz m0 m1 m2 m3 m4 m5 r0 r1 r2 r3 r4 r5 r6 r7 hwC b3 hd3
                  have r0 := qr.cell 0
                  have r1 := qr.cell 1
                  have r2 := qr.cell 2
                  have r3 := qr.cell 3
                  have r4 := qr.cell 4
                  have r5 := qr.cell 5
                  have r6 := qr.cell 6
                  have r7 := qr.cell 7
                  simp at r0 r1 r2 r3 r4 r5 r6 r7
                  have g0 := qr.free 0
                  have g1 := qr.free 1
                  have g2 := qr.free 2
                  have g3 := qr.free 3
                  have g4 := qr.free 4
                  have g5 := qr.free 5
                  have g6 := qr.free 6
                  have g7 := qr.free 7
                  have z0 := qz.cell 0
                  have z1 := qz.cell 1
                  have z2 := qz.cell 2
                  have z3 := qz.cell 3
                  have z4 := qz.cell 4
                  have z5 := qz.cell 5
                  have z6 := qz.cell 6
                  have z7 := qz.cell 7
                  simp at z0 z1 z2 z3 z4 z5 z6 z7
                  have y0 := qz.free 0
                  have y1 := qz.free 1
                  have y2 := qz.free 2
                  have y3 := qz.free 3
                  have y4 := qz.free 4
                  have y5 := qz.free 5
                  have y6 := qz.free 6
                  have y7 := qz.free 7
                  have m0 := qm.cell 0
                  have m1 := qm.cell 1
                  have m2 := qm.cell 2
                  have m3 := qm.cell 3
                  have m4 := qm.cell 4
                  have m5 := qm.cell 5
                  simp at m0 m1 m2 m3 m4 m5
                  have o5 : Only [w.heap.size] w4 ((w4.setCell ⟨w.heap.size, 4, none⟩ (.bool true)).setCell ⟨w.heap.size, 5, none⟩ (.bool true)) := only_then (put_only _ _ 4 _) (put_only _ _ 5 _)
                  have b5 := b4.trans (o5.below b4.size (by simp))
                  have q5 := qz.only o5 (by simp)
                  clear o5
                  go_wp2
                  exact bodyPost_ret (xta_results rfl rfl (put8_cel q5 (.int .i64 K) (.int .i64 W) (.int .i64 H) (.bool false) (.bool true) (.bool true) (.int .i64 bc) (.int .i64 sq))) rfl ⟨rfl, (b5).trans ((put8_only _ _ _ _ _ _ _ _ _ _).below (b5).size (fun x hx => by have := List.mem_singleton.1 hx; omega))⟩
              · have hb : (sq == nx) = false := by simpa using hq
                have xg := fun W' => xwithin_any sq ((nx + 1) % 256) (W - 1) 8 W'
                have xr := fun W' => xwithin_any sq ((nx - W + 256) % 256) W 8 W'
                rw [gap_x q0 q1 k3 k4 i2 i1 hq] at xg
                rw [rep_x q0 q1 i2 i1] at xr
                obtain ⟨N, hN⟩ : ∃ N, N = (nx + 1) % 256 := ⟨_, rfl⟩
                have tN : (nx + 1).tmod 256 = N := by rw [hN]; exact Int.tmod_eq_emod_of_nonneg (by omega)
                have tN' : (nx + 1) % 256 = N := hN.symm
                rw [← hN] at xg
                obtain ⟨P, hP⟩ : ∃ P, P = (nx - W + 256) % 256 := ⟨_, rfl⟩
                have tP : (nx - W + 256).tmod 256 = P := by rw [hP]; exact Int.tmod_eq_emod_of_nonneg (by omega)
                have tP' : (nx - W + 256) % 256 = P := hP.symm
                rw [← hP] at xr
                clear hN hP
                cases hg : decide ((sq - nx) % 256 < W) with
                | true =>
                  have e : rcv W ⟨false, wt, rt, bc, nx⟩ sq room = (3, ⟨false, wt, true, bc, nx⟩) := by unfold rcv; rw [if_neg hq, if_pos (of_decide_eq_true hg)]
                  rw [e]
                  dsimp only
                  rw [hg] at xg
                  clear e xr hg hq k1 k2 q0 q1 tP tP'
                  go_enter Try.func14, Try.ntmps14
                  go_wp2_with fail
                  rw [← hwC]
                  refine x1.mono ?_
                  rintro e w4 ⟨rfl, h4⟩
                  have b4 := b3.trans (h4.mono b3.size)
                  have qr := Cel.later pr h4
                  have qm := Cel.later pm h4
                  have qz := Cel.later pz h4
                  have qd := hd3.later h4
                  clear x1 h4 pr pm pz m0 m1 m2 m3 m4 m5 r0 r1 r2 r3 r4 r5 r6 r7 hwC b3 hd3
                  have r0 := qr.cell 0
                  have r1 := qr.cell 1
                  have r2 := qr.cell 2
                  have r3 := qr.cell 3
                  have r4 := qr.cell 4
                  have r5 := qr.cell 5
                  have r6 := qr.cell 6
                  have r7 := qr.cell 7
                  simp at r0 r1 r2 r3 r4 r5 r6 r7
                  have g0 := qr.free 0
                  have g1 := qr.free 1
                  have g2 := qr.free 2
                  have g3 := qr.free 3
                  have g4 := qr.free 4
                  have g5 := qr.free 5
                  have g6 := qr.free 6
                  have g7 := qr.free 7
                  have z0 := qz.cell 0
                  have z1 := qz.cell 1
                  have z2 := qz.cell 2
                  have z3 := qz.cell 3
                  have z4 := qz.cell 4
                  have z5 := qz.cell 5
                  have z6 := qz.cell 6
                  have z7 := qz.cell 7
                  simp at z0 z1 z2 z3 z4 z5 z6 z7
                  have y0 := qz.free 0
                  have y1 := qz.free 1
                  have y2 := qz.free 2
                  have y3 := qz.free 3
                  have y4 := qz.free 4
                  have y5 := qz.free 5
                  have y6 := qz.free 6
                  have y7 := qz.free 7
                  have m0 := qm.cell 0
                  have m1 := qm.cell 1
                  have m2 := qm.cell 2
                  have m3 := qm.cell 3
                  have m4 := qm.cell 4
                  have m5 := qm.cell 5
                  simp at m0 m1 m2 m3 m4 m5
                  go_wp2_with fail
                  refine (xg w4).mono ?_
                  rintro e w5 ⟨rfl, rfl⟩
                  have o5 : Only [w.heap.size] w4 (w4.setCell ⟨w.heap.size, 5, none⟩ (.bool true)) := put_only _ _ 5 _
                  have b5 := b4.trans (o5.below b4.size (by simp))
                  have q5 := qz.only o5 (by simp)
                  clear o5
                  go_wp2
                  exact bodyPost_ret (xta_results rfl rfl (put8_cel q5 (.int .i64 K) (.int .i64 W) (.int .i64 H) (.bool false) (.bool wt) (.bool true) (.int .i64 bc) (.int .i64 nx))) rfl ⟨rfl, (b5).trans ((put8_only _ _ _ _ _ _ _ _ _ _).below (b5).size (fun x hx => by have := List.mem_singleton.1 hx; omega))⟩
                | false =>
                  rw [hg] at xg
                  cases hr : decide ((sq - nx + W) % 256 < W) with
                  | true =>
                    have e : rcv W ⟨false, wt, rt, bc, nx⟩ sq room = (2, ⟨false, wt, rt, bc, nx⟩) := by unfold rcv; rw [if_neg hq, if_neg (of_decide_eq_false hg), if_pos (of_decide_eq_true hr)]
                    rw [e]
                    dsimp only
                    rw [hr] at xr
                    clear e hg hr hq k1 k2 q0 q1
                    go_enter Try.func14, Try.ntmps14
                    go_wp2_with fail
                    rw [← hwC]
                    refine x1.mono ?_
                    rintro e w4 ⟨rfl, h4⟩
                    have b4 := b3.trans (h4.mono b3.size)
                    have qr := Cel.later pr h4
                    have qm := Cel.later pm h4
                    have qz := Cel.later pz h4
                    have qd := hd3.later h4
                    clear x1 h4 pr pm pz m0 m1 m2 m3 m4 m5 r0 r1 r2 r3 r4 r5 r6 r7 hwC b3 hd3
                    have r0 := qr.cell 0
                    have r1 := qr.cell 1
                    have r2 := qr.cell 2
                    have r3 := qr.cell 3
                    have r4 := qr.cell 4
                    have r5 := qr.cell 5
                    have r6 := qr.cell 6
                    have r7 := qr.cell 7
                    simp at r0 r1 r2 r3 r4 r5 r6 r7
                    have g0 := qr.free 0
                    have g1 := qr.free 1
                    have g2 := qr.free 2
                    have g3 := qr.free 3
                    have g4 := qr.free 4
                    have g5 := qr.free 5
                    have g6 := qr.free 6
                    have g7 := qr.free 7
                    have z0 := qz.cell 0
                    have z1 := qz.cell 1
                    have z2 := qz.cell 2
                    have z3 := qz.cell 3
                    have z4 := qz.cell 4
                    have z5 := qz.cell 5
                    have z6 := qz.cell 6
                    have z7 := qz.cell 7
                    simp at z0 z1 z2 z3 z4 z5 z6 z7
                    have y0 := qz.free 0
                    have y1 := qz.free 1
                    have y2 := qz.free 2
                    have y3 := qz.free 3
                    have y4 := qz.free 4
                    have y5 := qz.free 5
                    have y6 := qz.free 6
                    have y7 := qz.free 7
                    have m0 := qm.cell 0
                    have m1 := qm.cell 1
                    have m2 := qm.cell 2
                    have m3 := qm.cell 3
                    have m4 := qm.cell 4
                    have m5 := qm.cell 5
                    simp at m0 m1 m2 m3 m4 m5
                    go_wp2_with fail
                    refine (xg w4).mono ?_
                    rintro e w5 ⟨rfl, rfl⟩
                    go_wp2_with fail
                    refine (xr w4).mono ?_
                    rintro e w5 ⟨rfl, rfl⟩
                    go_wp2
                    exact bodyPost_ret (xta_results rfl rfl (put8_cel qz (.int .i64 K) (.int .i64 W) (.int .i64 H) (.bool false) (.bool wt) (.bool rt) (.int .i64 bc) (.int .i64 nx))) rfl ⟨rfl, (b4).trans ((put8_only _ _ _ _ _ _ _ _ _ _).below (b4).size (fun x hx => by have := List.mem_singleton.1 hx; omega))⟩
                  | false =>
                    have e : rcv W ⟨false, wt, rt, bc, nx⟩ sq room = (4, ⟨true, wt, rt, bc, nx⟩) := by unfold rcv; rw [if_neg hq, if_neg (of_decide_eq_false hg), if_neg (of_decide_eq_false hr)]
                    rw [e]
                    dsimp only
                    rw [hr] at xr
                    clear e hg hr hq k1 k2 q0 q1
                    go_enter Try.func14, Try.ntmps14
                    go_wp2_with fail
                    rw [← hwC]
                    refine x1.mono ?_
                    rintro e w4 ⟨rfl, h4⟩
                    have b4 := b3.trans (h4.mono b3.size)
                    have qr := Cel.later pr h4
                    have qm := Cel.later pm h4
                    have qz := Cel.later pz h4
                    have qd := hd3.later h4
                    clear x1 h4 pr pm pz m0 m1 m2 m3 m4 m5 r0 r1 r2 r3 r4 r5 r6 r7 hwC b3 hd3
                    have r0 := qr.cell 0
                    have r1 := qr.cell 1
                    have r2 := qr.cell 2
                    have r3 := qr.cell 3
                    have r4 := qr.cell 4
                    have r5 := qr.cell 5
                    have r6 := qr.cell 6
                    have r7 := qr.cell 7
                    simp at r0 r1 r2 r3 r4 r5 r6 r7
                    have g0 := qr.free 0
                    have g1 := qr.free 1
                    have g2 := qr.free 2
                    have g3 := qr.free 3
                    have g4 := qr.free 4
                    have g5 := qr.free 5
                    have g6 := qr.free 6
                    have g7 := qr.free 7
                    have z0 := qz.cell 0
                    have z1 := qz.cell 1
                    have z2 := qz.cell 2
                    have z3 := qz.cell 3
                    have z4 := qz.cell 4
                    have z5 := qz.cell 5
                    have z6 := qz.cell 6
                    have z7 := qz.cell 7
                    simp at z0 z1 z2 z3 z4 z5 z6 z7
                    have y0 := qz.free 0
                    have y1 := qz.free 1
                    have y2 := qz.free 2
                    have y3 := qz.free 3
                    have y4 := qz.free 4
                    have y5 := qz.free 5
                    have y6 := qz.free 6
                    have y7 := qz.free 7
                    have m0 := qm.cell 0
                    have m1 := qm.cell 1
                    have m2 := qm.cell 2
                    have m3 := qm.cell 3
                    have m4 := qm.cell 4
                    have m5 := qm.cell 5
                    simp at m0 m1 m2 m3 m4 m5
                    go_wp2_with fail
                    refine (xg w4).mono ?_
                    rintro e w5 ⟨rfl, rfl⟩
                    go_wp2_with fail
                    refine (xr w4).mono ?_
                    rintro e w5 ⟨rfl, rfl⟩
                    have o5 : Only [w.heap.size] w4 (w4.setCell ⟨w.heap.size, 3, none⟩ (.bool true)) := put_only _ _ 3 _
                    have b5 := b4.trans (o5.below b4.size (by simp))
                    have q5 := qz.only o5 (by simp)
                    clear o5
                    go_wp2
                    exact bodyPost_ret (xta_results rfl rfl (put8_cel q5 (.int .i64 K) (.int .i64 W) (.int .i64 H) (.bool true) (.bool wt) (.bool rt) (.int .i64 bc) (.int .i64 nx))) rfl ⟨rfl, (b5).trans ((put8_only _ _ _ _ _ _ _ _ _ _).below (b5).size (fun x hx => by have := List.mem_singleton.1 hx; omega))⟩
      · have t2 : (ch == H) = false := by simpa using h2
        have t2' : (ch != H) = true := by simpa using h2
        rw [t2] at hM
        have hM2 : mine K H ⟨byp, con, cr, ch, sq, l⟩ = false := by rw [hM]; rfl
        have e : tke K H W ⟨lk, wt, rt, bc, nx⟩ ⟨byp, con, cr, ch, sq, l⟩ room = (0, ⟨lk, wt, rt, bc, nx⟩) := by unfold tke; rw [hM2]; rfl
        rw [e]
        dsimp only
        clear e hM hM2 h2 i1 i2 k1 k2 k3 k4 hD q0 q1
        go_enter Try.func14, Try.ntmps14
        go_wp2_with fail
        rw [← hwC]
        refine x1.mono ?_
        rintro e w4 ⟨rfl, h4⟩
        have b4 := b3.trans (h4.mono b3.size)
        have qr := Cel.later pr h4
        have qm := Cel.later pm h4
        have qz := Cel.later pz h4
        have qd := hd3.later h4
        clear x1 h4 pr pm pz m0 m1 m2 m3 m4 m5 r0 r1 r2 r3 r4 r5 r6 r7 hwC b3 hd3
        have r0 := qr.cell 0
        have r1 := qr.cell 1
        have r2 := qr.cell 2
        have r3 := qr.cell 3
        have r4 := qr.cell 4
        have r5 := qr.cell 5
        have r6 := qr.cell 6
        have r7 := qr.cell 7
        simp at r0 r1 r2 r3 r4 r5 r6 r7
        have g0 := qr.free 0
        have g1 := qr.free 1
        have g2 := qr.free 2
        have g3 := qr.free 3
        have g4 := qr.free 4
        have g5 := qr.free 5
        have g6 := qr.free 6
        have g7 := qr.free 7
        have z0 := qz.cell 0
        have z1 := qz.cell 1
        have z2 := qz.cell 2
        have z3 := qz.cell 3
        have z4 := qz.cell 4
        have z5 := qz.cell 5
        have z6 := qz.cell 6
        have z7 := qz.cell 7
        simp at z0 z1 z2 z3 z4 z5 z6 z7
        have y0 := qz.free 0
        have y1 := qz.free 1
        have y2 := qz.free 2
        have y3 := qz.free 3
        have y4 := qz.free 4
        have y5 := qz.free 5
        have y6 := qz.free 6
        have y7 := qz.free 7
        have m0 := qm.cell 0
        have m1 := qm.cell 1
        have m2 := qm.cell 2
        have m3 := qm.cell 3
        have m4 := qm.cell 4
        have m5 := qm.cell 5
        simp at m0 m1 m2 m3 m4 m5
        go_wp2
        exact bodyPost_ret (xta_results rfl rfl (put8_cel qz (.int .i64 K) (.int .i64 W) (.int .i64 H) (.bool lk) (.bool wt) (.bool rt) (.int .i64 bc) (.int .i64 nx))) rfl ⟨rfl, (b4).trans ((put8_only _ _ _ _ _ _ _ _ _ _).below (b4).size (fun x hx => by have := List.mem_singleton.1 hx; omega))⟩
    · have t1 : (cr == K) = false := by simpa using h1
      have t1' : (cr != K) = true := by simpa using h1
      rw [t1] at hM
      have hM2 : mine K H ⟨byp, con, cr, ch, sq, l⟩ = false := by rw [hM]; rfl
      have e : tke K H W ⟨lk, wt, rt, bc, nx⟩ ⟨byp, con, cr, ch, sq, l⟩ room = (0, ⟨lk, wt, rt, bc, nx⟩) := by unfold tke; rw [hM2]; rfl
      rw [e]
      dsimp only
      clear e hM hM2 h1 i1 i2 k1 k2 k3 k4 hD q0 q1
      go_enter Try.func14, Try.ntmps14
      go_wp2_with fail
      rw [← hwC]
      refine x1.mono ?_
      rintro e w4 ⟨rfl, h4⟩
      have b4 := b3.trans (h4.mono b3.size)
      have qr := Cel.later pr h4
      have qm := Cel.later pm h4
      have qz := Cel.later pz h4
      have qd := hd3.later h4
      clear x1 h4 pr pm pz m0 m1 m2 m3 m4 m5 r0 r1 r2 r3 r4 r5 r6 r7 hwC b3 hd3
      have r0 := qr.cell 0
      have r1 := qr.cell 1
      have r2 := qr.cell 2
      have r3 := qr.cell 3
      have r4 := qr.cell 4
      have r5 := qr.cell 5
      have r6 := qr.cell 6
      have r7 := qr.cell 7
      simp at r0 r1 r2 r3 r4 r5 r6 r7
      have g0 := qr.free 0
      have g1 := qr.free 1
      have g2 := qr.free 2
      have g3 := qr.free 3
      have g4 := qr.free 4
      have g5 := qr.free 5
      have g6 := qr.free 6
      have g7 := qr.free 7
      have z0 := qz.cell 0
      have z1 := qz.cell 1
      have z2 := qz.cell 2
      have z3 := qz.cell 3
      have z4 := qz.cell 4
      have z5 := qz.cell 5
      have z6 := qz.cell 6
      have z7 := qz.cell 7
      simp at z0 z1 z2 z3 z4 z5 z6 z7
      have y0 := qz.free 0
      have y1 := qz.free 1
      have y2 := qz.free 2
      have y3 := qz.free 3
      have y4 := qz.free 4
      have y5 := qz.free 5
      have y6 := qz.free 6
      have y7 := qz.free 7
      have m0 := qm.cell 0
      have m1 := qm.cell 1
      have m2 := qm.cell 2
      have m3 := qm.cell 3
      have m4 := qm.cell 4
      have m5 := qm.cell 5
      simp at m0 m1 m2 m3 m4 m5
      go_wp2
      exact bodyPost_ret (xta_results rfl rfl (put8_cel qz (.int .i64 K) (.int .i64 W) (.int .i64 H) (.bool lk) (.bool wt) (.bool rt) (.int .i64 bc) (.int .i64 nx))) rfl ⟨rfl, (b4).trans ((put8_only _ _ _ _ _ _ _ _ _ _).below (b4).size (fun x hx => by have := List.mem_singleton.1 hx; omega))⟩
end Go.Proofs.Ytdjopkfibfgjeaa.Far
