/-
  Ref17h Ref17i Ref17j Ref17k, one after another.
-/
import Derived.Test.YtdpjjhbfhlmolaaFopp2

/-
  The reference of layer 17: Report without acknowledged units.
-/
namespace Go.Proofs.Ytdpjjhbfhlmolaa.Fop
open Go.RowKit
open Pac (bel_new Cel.later)
open Clc (Cw zvalid_any)

set_option maxRecDepth 100000 in
set_option maxHeartbeats 16000000 in
theorem xrep_none (m ch : Int) (wt rt : Bool) (bp nx : Int) (K H W T R st : Int) (A : Option Addr) (n c : Nat) (ac fl fr : Int) (A2 : Option Addr) (n2 c2 : Nat) (nw tm rp : Int) (w : World) {nw1 : Int} (hN : adn m nw = nw1) (hc : ch = H) {D : Nat} (hV : Cw.ok ⟨ch, false, wt, rt, bp, nx⟩ = true) (n0 : 0 ≤ nx) (n1 : nx ≤ 255) (a0 : 0 ≤ ac) (a1 : ac ≤ 1099511627776) (hD : (nx - ac) % 256 = (D : Int)) (hf : (D : Int) ≤ fr) (hfl : 0 ≤ fl) (hfr : fr ≤ 256) (hff : fl ≤ fr) (hDn : D ≤ n) (_hnc : n ≤ c) (_hz : A = none → c = 0) (hpos : D = 0)
    {A3 : Option Addr} {c3 n3 : Nat} {AC FR FX FL : Int} (hA3 : (if c = D then A else Option.map (fun x => x.add D) A) = A3) (hc3 : c - D = c3) (hn3 : n - D = n3) (hAC : ac + (D : Int) = AC) (hFR : fr - (D : Int) = FR) (hFX : fl - (D : Int) = FX) (hFL : max FX 0 = FL) :
    Calls Try.prog 18 #[.agg #[.int .i64 K, .int .i64 H, .int .i64 W, .int .i64 T, .int .i64 R, .int .i64 st, .slice A n c, .int .i64 ac, .int .i64 fl, .int .i64 fr, .slice A2 n2 c2, .int .i64 nw, .int .i64 tm, .int .i64 rp], .agg #[.int .i64 ch, .bool false, .bool wt, .bool rt, .int .i64 bp, .int .i64 nx], .int .i64 m] w fun e w' => (e = .returned (.tuple #[.agg #[.int .i64 K, .int .i64 H, .int .i64 W, .int .i64 T, .int .i64 R, .int .i64 (if st = 1 ∨ st = 2 then (if wt then 2 else 1) else st), .slice A3 n3 c3, .int .i64 AC, .int .i64 (if rt then 0 else FL), .int .i64 FR, .slice A2 n2 c2, .int .i64 nw1, .int .i64 tm, .int .i64 rp], .int .i64 0])) ∧ Below w.heap.size w w' := by
  obtain ⟨N1, hN1⟩ : ∃ N1, N1 = nx + 256 := ⟨_, rfl⟩
  obtain ⟨M1, hM1⟩ : ∃ M1, M1 = ac % 256 := ⟨_, rfl⟩
  obtain ⟨X1, hX1⟩ : ∃ X1, X1 = N1 - M1 := ⟨_, rfl⟩
  have v0 : 0 ≤ M1 ∧ M1 ≤ 255 := by omega
  have v1 : nx + 256 = N1 := hN1.symm
  have v2 : wrap64 N1 = N1 := wr64 (by omega) (by omega)
  have v3 : ac.tmod 256 = M1 := by rw [Int.tmod_eq_emod_of_nonneg a0]; exact hM1.symm
  have v4 : ac % 256 = M1 := hM1.symm
  have v5 : N1 - M1 = X1 := hX1.symm
  have v6 : wrap64 X1 = X1 := wr64 (by omega) (by omega)
  have v7 : X1 % 256 = (D : Int) := by rw [← hD]; omega
  have v8 : X1.tmod 256 = (D : Int) := by rw [Int.tmod_eq_emod_of_nonneg (by omega)]; exact v7
  have t1 : (ch != H) = false := by simpa using hc
  clear hc
  have HV := Lib.hid (And.intro v1 (And.intro v2 (And.intro v3 (And.intro v4 (And.intro v5 (And.intro v6 (And.intro v7 v8)))))))
  clear hN1 hM1 hX1 v0 v1 v2 v3 v4 v5 v6 v7 v8
  have t2 : decide (fr < (D : Int)) = false := by simp; omega
  have t3 : decide ((0 : Int) < (D : Int)) = false := by simp; omega
  have t4 : decide (0 < D) = false := by simp; omega
  have g1 : wrap64 AC = AC := wr64 (by omega) (by omega)
  have g2 : wrap64 FR = FR := wr64 (by omega) (by omega)
  have g3 : wrap64 FX = FX := wr64 (by omega) (by omega)
  have g4 : (if FX < 0 then (0 : Int) else FX) = FL := by rw [← hFL]; split <;> omega
  have g5 : (D : Int) ≤ (n : Int) := by omega
  have g6 : D ≤ c := by omega
  have g7 : (D : Int) ≤ (c : Int) := by omega
  have g8 : (0 : Int) ≤ (D : Int) := Int.natCast_nonneg _
  have HG := Lib.hid (And.intro g1 (And.intro g2 (And.intro g3 (And.intro g4 (And.intro hFR (And.intro hFX (And.intro hFL hAC)))))))
  clear hD hf hfl hfr hff hpos a0 a1 n0 n1 g1 g2 g3 g4 hFR hFX hFL hAC
  obtain ⟨fLr, hfLr⟩ : ∃ x, x = (if rt then 0 else FL) := ⟨_, rfl⟩
  obtain ⟨sTr, hsTr⟩ : ∃ x, x = (if st = 1 ∨ st = 2 then (if wt then 2 else 1) else st) := ⟨_, rfl⟩
  rw [← hfLr, ← hsTr]
  have HfLr := Lib.hid hfLr
  have HsTr := Lib.hid hsTr
  clear hfLr hsTr
  obtain ⟨w3, hw3⟩ : ∃ w3, w3 = ((w.alloc (.cells #[.int .i64 K, .int .i64 H, .int .i64 W, .int .i64 T, .int .i64 R, .int .i64 st, .slice A n c, .int .i64 ac, .int .i64 fl, .int .i64 fr, .slice A2 n2 c2, .int .i64 nw, .int .i64 tm, .int .i64 rp] 31)).alloc (.cells #[.int .i64 ch, .bool false, .bool wt, .bool rt, .int .i64 bp, .int .i64 nx] 35)).alloc (.cells #[.int .i64 0, .int .i64 0, .int .i64 0, .int .i64 0, .int .i64 0, .int .i64 0, .slice none 0 0, .int .i64 0, .int .i64 0, .int .i64 0, .slice none 0 0, .int .i64 0, .int .i64 0, .int .i64 0] 31) := ⟨_, rfl⟩
  have b3 : Below w.heap.size w w3 := by rw [hw3]; exact ((bel_new _ _).alloc (by simp) _).alloc (by simp; omega) _
  have pr3 : Cel w3 w.heap.size 31 #[.int .i64 K, .int .i64 H, .int .i64 W, .int .i64 T, .int .i64 R, .int .i64 st, .slice A n c, .int .i64 ac, .int .i64 fl, .int .i64 fr, .slice A2 n2 c2, .int .i64 nw, .int .i64 tm, .int .i64 rp] := by rw [hw3]; exact Cel.later (Cel.later (Cel_at rfl) (bel_new _ _)) (bel_new _ _)
  have pq3 : Cel w3 (w.heap.size + 1) 35 #[.int .i64 ch, .bool false, .bool wt, .bool rt, .int .i64 bp, .int .i64 nx] := by rw [hw3]; exact Cel.later (Cel_at (by simp)) (bel_new _ _)
  have pz3 : Cel w3 (w.heap.size + 1 + 1) 31 #[.int .i64 0, .int .i64 0, .int .i64 0, .int .i64 0, .int .i64 0, .int .i64 0, .slice none 0 0, .int .i64 0, .int .i64 0, .int .i64 0, .slice none 0 0, .int .i64 0, .int .i64 0, .int .i64 0] := by rw [hw3]; exact Cel_at (by simp)
  have xa := xat_any m K H W T R st A n c ac fl fr A2 n2 c2 nw tm rp w3 hN
  have HP := Lib.hid (And.intro pr3 (And.intro pz3 pq3))
  have HB := Lib.hid b3
  clear pr3 pz3 pq3 b3 hN
  go_enter Try.func18, Try.ntmps18
  go_wp2_with fail
  rw [← hw3]
  clear hw3
  refine xa.mono ?_
  rintro e w4 ⟨rfl, k4⟩
  clear xa
  have pr4 := Cel.later HP.out.1 k4
  have pz4 := Cel.later HP.out.2.1 k4
  have pq4 := Cel.later HP.out.2.2 k4
  have b4 := HB.out.trans (k4.mono HB.out.size)
  obtain ⟨W5, hW5⟩ : ∃ W5, W5 = put14 w4 w.heap.size (.int .i64 K) (.int .i64 H) (.int .i64 W) (.int .i64 T) (.int .i64 R) (.int .i64 st) (.slice A n c) (.int .i64 ac) (.int .i64 fl) (.int .i64 fr) (.slice A2 n2 c2) (.int .i64 nw1) (.int .i64 tm) (.int .i64 rp) := ⟨_, rfl⟩
  have k5 : Only [w.heap.size] w4 W5 := by rw [hW5]; exact put14_only _ _ _ _ _ _ _ _ _ _ _ _ _ _ _ _
  have pr5 : Cel W5 w.heap.size 31 #[.int .i64 K, .int .i64 H, .int .i64 W, .int .i64 T, .int .i64 R, .int .i64 st, .slice A n c, .int .i64 ac, .int .i64 fl, .int .i64 fr, .slice A2 n2 c2, .int .i64 nw1, .int .i64 tm, .int .i64 rp] := by rw [hW5]; exact put14_cel pr4 _ _ _ _ _ _ _ _ _ _ _ _ _ _
  have pz5 := pz4.only k5 (by simp; omega)
  have pq5 := pq4.only k5 (by simp)
  have b5 := b4.trans (k5.below b4.size (by simp))
  unfold put14 at hW5
  have a0 := pr4.cell 0
  have a1 := pr4.cell 1
  have a2 := pr4.cell 2
  have a3 := pr4.cell 3
  have a4 := pr4.cell 4
  have a5 := pr4.cell 5
  have a6 := pr4.cell 6
  have a7 := pr4.cell 7
  have a8 := pr4.cell 8
  have a9 := pr4.cell 9
  have a10 := pr4.cell 10
  have a11 := pr4.cell 11
  have a12 := pr4.cell 12
  have a13 := pr4.cell 13
  simp at a0 a1 a2 a3 a4 a5 a6 a7 a8 a9 a10 a11 a12 a13
  have ya0 := pr4.free 0
  have ya1 := pr4.free 1
  have ya2 := pr4.free 2
  have ya3 := pr4.free 3
  have ya4 := pr4.free 4
  have ya5 := pr4.free 5
  have ya6 := pr4.free 6
  have ya7 := pr4.free 7
  have ya8 := pr4.free 8
  have ya9 := pr4.free 9
  have ya10 := pr4.free 10
  have ya11 := pr4.free 11
  have ya12 := pr4.free 12
  have ya13 := pr4.free 13
  clear k4 k5 pz4 pq4 b4 pr4
  go_upto_region 2 with fail
  rw [← hW5]
  clear hW5 a0 ya0 a1 ya1 a2 ya2 a3 ya3 a4 ya4 a5 ya5 a6 ya6 a7 ya7 a8 ya8 a9 ya9 a10 ya10 a11 ya11 a12 ya12 a13 ya13
  have q0 := pq5.cell 0
  have q1 := pq5.cell 1
  have q2 := pq5.cell 2
  have q3 := pq5.cell 3
  have q4 := pq5.cell 4
  have q5 := pq5.cell 5
  simp at q0 q1 q2 q3 q4 q5
  go_wp2_with fail
  refine (zvalid_any ch false wt rt bp nx W5).mono ?_
  rintro e w6 ⟨rfl, k6⟩
  rw [hV]
  have pr6 := Cel.later pr5 k6
  have pz6 := Cel.later pz5 k6
  have pq6 := Cel.later pq5 k6
  have b6 := b5.trans (k6.mono b5.size)
  clear k6 pr5 pz5 pq5 b5 hV q0 q1 q2 q3 q4 q5
  have r0 := pr6.cell 0
  have r1 := pr6.cell 1
  have r2 := pr6.cell 2
  have r3 := pr6.cell 3
  have r4 := pr6.cell 4
  have r5 := pr6.cell 5
  have r6 := pr6.cell 6
  have r7 := pr6.cell 7
  have r8 := pr6.cell 8
  have r9 := pr6.cell 9
  have r10 := pr6.cell 10
  have r11 := pr6.cell 11
  have r12 := pr6.cell 12
  have r13 := pr6.cell 13
  simp at r0 r1 r2 r3 r4 r5 r6 r7 r8 r9 r10 r11 r12 r13
  have yr0 := pr6.free 0
  have yr1 := pr6.free 1
  have yr2 := pr6.free 2
  have yr3 := pr6.free 3
  have yr4 := pr6.free 4
  have yr5 := pr6.free 5
  have yr6 := pr6.free 6
  have yr7 := pr6.free 7
  have yr8 := pr6.free 8
  have yr9 := pr6.free 9
  have yr10 := pr6.free 10
  have yr11 := pr6.free 11
  have yr12 := pr6.free 12
  have yr13 := pr6.free 13
  have z0 := pz6.cell 0
  have z1 := pz6.cell 1
  have z2 := pz6.cell 2
  have z3 := pz6.cell 3
  have z4 := pz6.cell 4
  have z5 := pz6.cell 5
  have z6 := pz6.cell 6
  have z7 := pz6.cell 7
  have z8 := pz6.cell 8
  have z9 := pz6.cell 9
  have z10 := pz6.cell 10
  have z11 := pz6.cell 11
  have z12 := pz6.cell 12
  have z13 := pz6.cell 13
  simp at z0 z1 z2 z3 z4 z5 z6 z7 z8 z9 z10 z11 z12 z13
  have yz0 := pz6.free 0
  have yz1 := pz6.free 1
  have yz2 := pz6.free 2
  have yz3 := pz6.free 3
  have yz4 := pz6.free 4
  have yz5 := pz6.free 5
  have yz6 := pz6.free 6
  have yz7 := pz6.free 7
  have yz8 := pz6.free 8
  have yz9 := pz6.free 9
  have yz10 := pz6.free 10
  have yz11 := pz6.free 11
  have yz12 := pz6.free 12
  have yz13 := pz6.free 13
  have q0 := pq6.cell 0
  have q1 := pq6.cell 1
  have q2 := pq6.cell 2
  have q3 := pq6.cell 3
  have q4 := pq6.cell 4
  have q5 := pq6.cell 5
  simp at q0 q1 q2 q3 q4 q5
  go_upto_region 7 with fail
  obtain ⟨v1, v2, v3, v4, v5, v6, v7, v8⟩ := HV.out
  go_upto_region 8 with fail
  clear v1 v2 v3 v4 v5 v6 v7 v8
  obtain ⟨gg1, gg2, gg3, gg4, gFR, gFX, gFL, gAC⟩ := HG.out
  obtain ⟨W7, hW7⟩ : ∃ W7, W7 = ((((w6.setCell ⟨w.heap.size, 6, none⟩ (.slice A3 n3 c3)).setCell ⟨w.heap.size, 7, none⟩ (.int .i64 AC)).setCell ⟨w.heap.size, 9, none⟩ (.int .i64 FR)).setCell ⟨w.heap.size, 8, none⟩ (.int .i64 FL)) := ⟨_, rfl⟩
  have k7 : Only [w.heap.size] w6 W7 := by rw [hW7]; exact (only_put (only_put (only_put (put_only _ _ 6 _) 7 _) 9 _) 8 _)
  have pr7 : Cel W7 w.heap.size 31 #[.int .i64 K, .int .i64 H, .int .i64 W, .int .i64 T, .int .i64 R, .int .i64 st, .slice A3 n3 c3, .int .i64 AC, .int .i64 FL, .int .i64 FR, .slice A2 n2 c2, .int .i64 nw1, .int .i64 tm, .int .i64 rp] := by rw [hW7]; exact ((((pr6.put 6 _).put 7 _).put 9 _).put 8 _)
  have pz7 := pz6.only k7 (by simp; omega)
  have pq7 := pq6.only k7 (by simp)
  have b7 := b6.trans (k7.below b6.size (by simp))
  go_upto_region 18 with fail
  rw [← hW7]
  clear r0 yr0 z0 yz0 r1 yr1 z1 yz1 r2 yr2 z2 yz2 r3 yr3 z3 yz3 r4 yr4 z4 yz4 r5 yr5 z5 yz5 r6 yr6 z6 yz6 r7 yr7 z7 yz7 r8 yr8 z8 yz8 r9 yr9 z9 yz9 r10 yr10 z10 yz10 r11 yr11 z11 yz11 r12 yr12 z12 yz12 r13 yr13 z13 yz13 q0 q1 q2 q3 q4 q5 hW7 k7 pr6 pz6 pq6 b6
  have r0 := pr7.cell 0
  have r1 := pr7.cell 1
  have r2 := pr7.cell 2
  have r3 := pr7.cell 3
  have r4 := pr7.cell 4
  have r5 := pr7.cell 5
  have r6 := pr7.cell 6
  have r7 := pr7.cell 7
  have r8 := pr7.cell 8
  have r9 := pr7.cell 9
  have r10 := pr7.cell 10
  have r11 := pr7.cell 11
  have r12 := pr7.cell 12
  have r13 := pr7.cell 13
  simp at r0 r1 r2 r3 r4 r5 r6 r7 r8 r9 r10 r11 r12 r13
  have yr0 := pr7.free 0
  have yr1 := pr7.free 1
  have yr2 := pr7.free 2
  have yr3 := pr7.free 3
  have yr4 := pr7.free 4
  have yr5 := pr7.free 5
  have yr6 := pr7.free 6
  have yr7 := pr7.free 7
  have yr8 := pr7.free 8
  have yr9 := pr7.free 9
  have yr10 := pr7.free 10
  have yr11 := pr7.free 11
  have yr12 := pr7.free 12
  have yr13 := pr7.free 13
  have z0 := pz7.cell 0
  have z1 := pz7.cell 1
  have z2 := pz7.cell 2
  have z3 := pz7.cell 3
  have z4 := pz7.cell 4
  have z5 := pz7.cell 5
  have z6 := pz7.cell 6
  have z7 := pz7.cell 7
  have z8 := pz7.cell 8
  have z9 := pz7.cell 9
  have z10 := pz7.cell 10
  have z11 := pz7.cell 11
  have z12 := pz7.cell 12
  have z13 := pz7.cell 13
  simp at z0 z1 z2 z3 z4 z5 z6 z7 z8 z9 z10 z11 z12 z13
  have yz0 := pz7.free 0
  have yz1 := pz7.free 1
  have yz2 := pz7.free 2
  have yz3 := pz7.free 3
  have yz4 := pz7.free 4
  have yz5 := pz7.free 5
  have yz6 := pz7.free 6
  have yz7 := pz7.free 7
  have yz8 := pz7.free 8
  have yz9 := pz7.free 9
  have yz10 := pz7.free 10
  have yz11 := pz7.free 11
  have yz12 := pz7.free 12
  have yz13 := pz7.free 13
  have q0 := pq7.cell 0
  have q1 := pq7.cell 1
  have q2 := pq7.cell 2
  have q3 := pq7.cell 3
  have q4 := pq7.cell 4
  have q5 := pq7.cell 5
  simp at q0 q1 q2 q3 q4 q5
  by_cases h1 : st = 1
  · subst h1
    cases wt with
    | true =>
      cases rt with
      | true =>
        obtain ⟨W8, hW8⟩ : ∃ W8, W8 = (((W7.setCell ⟨w.heap.size, 8, none⟩ (.int .i64 0)).setCell ⟨w.heap.size, 5, none⟩ (.int .i64 1)).setCell ⟨w.heap.size, 5, none⟩ (.int .i64 2)) := ⟨_, rfl⟩
        have k8 : Only [w.heap.size] W7 W8 := by rw [hW8]; exact (only_put (only_put (put_only _ _ 8 _) 5 _) 5 _)
        have pz8 := pz7.only k8 (by simp; omega)
        have b8 := b7.trans (k8.below b7.size (by simp))
        have pr8 : Cel W8 w.heap.size 31 #[.int .i64 K, .int .i64 H, .int .i64 W, .int .i64 T, .int .i64 R, .int .i64 2, .slice A3 n3 c3, .int .i64 AC, .int .i64 0, .int .i64 FR, .slice A2 n2 c2, .int .i64 nw1, .int .i64 tm, .int .i64 rp] := by rw [hW8]; exact (((pr7.put 8 _).put 5 _).put 5 _)
        have HFIN := Lib.hid (And.intro (put14_cel pz8 (.int .i64 K) (.int .i64 H) (.int .i64 W) (.int .i64 T) (.int .i64 R) (.int .i64 2) (.slice A3 n3 c3) (.int .i64 AC) (.int .i64 0) (.int .i64 FR) (.slice A2 n2 c2) (.int .i64 nw1) (.int .i64 tm) (.int .i64 rp)) (b8.trans ((put14_only W8 (w.heap.size + 1 + 1) (.int .i64 K) (.int .i64 H) (.int .i64 W) (.int .i64 T) (.int .i64 R) (.int .i64 2) (.slice A3 n3 c3) (.int .i64 AC) (.int .i64 0) (.int .i64 FR) (.slice A2 n2 c2) (.int .i64 nw1) (.int .i64 tm) (.int .i64 rp)).below b8.size (by simp; omega))))
        unfold put14 at HFIN
        go_upto_region 24 with fail
        rw [← hW8]
        clear r0 yr0 z0 yz0 r1 yr1 z1 yz1 r2 yr2 z2 yz2 r3 yr3 z3 yz3 r4 yr4 z4 yz4 r5 yr5 z5 yz5 r6 yr6 z6 yz6 r7 yr7 z7 yz7 r8 yr8 z8 yz8 r9 yr9 z9 yz9 r10 yr10 z10 yz10 r11 yr11 z11 yz11 r12 yr12 z12 yz12 r13 yr13 z13 yz13 q0 q1 q2 q3 q4 q5 hW8 k8 pr7 pz7 pq7 b7 b8
        have r0 := pr8.cell 0
        have r1 := pr8.cell 1
        have r2 := pr8.cell 2
        have r3 := pr8.cell 3
        have r4 := pr8.cell 4
        have r5 := pr8.cell 5
        have r6 := pr8.cell 6
        have r7 := pr8.cell 7
        have r8 := pr8.cell 8
        have r9 := pr8.cell 9
        have r10 := pr8.cell 10
        have r11 := pr8.cell 11
        have r12 := pr8.cell 12
        have r13 := pr8.cell 13
        simp at r0 r1 r2 r3 r4 r5 r6 r7 r8 r9 r10 r11 r12 r13
        have z0 := pz8.cell 0
        have z1 := pz8.cell 1
        have z2 := pz8.cell 2
        have z3 := pz8.cell 3
        have z4 := pz8.cell 4
        have z5 := pz8.cell 5
        have z6 := pz8.cell 6
        have z7 := pz8.cell 7
        have z8 := pz8.cell 8
        have z9 := pz8.cell 9
        have z10 := pz8.cell 10
        have z11 := pz8.cell 11
        have z12 := pz8.cell 12
        have z13 := pz8.cell 13
        simp at z0 z1 z2 z3 z4 z5 z6 z7 z8 z9 z10 z11 z12 z13
        have yz0 := pz8.free 0
        have yz1 := pz8.free 1
        have yz2 := pz8.free 2
        have yz3 := pz8.free 3
        have yz4 := pz8.free 4
        have yz5 := pz8.free 5
        have yz6 := pz8.free 6
        have yz7 := pz8.free 7
        have yz8 := pz8.free 8
        have yz9 := pz8.free 9
        have yz10 := pz8.free 10
        have yz11 := pz8.free 11
        have yz12 := pz8.free 12
        have yz13 := pz8.free 13
        clear pr8 pz8
        have eS : sTr = 2 := by rw [HsTr.out]; simp
        have eF : fLr = 0 := by rw [HfLr.out]; simp
        have HE := Lib.hid (congr (congrArg (fun s f => Ending.returned (.tuple #[.agg #[.int .i64 K, .int .i64 H, .int .i64 W, .int .i64 T, .int .i64 R, .int .i64 s, .slice A3 n3 c3, .int .i64 AC, .int .i64 f, .int .i64 FR, .slice A2 n2 c2, .int .i64 nw1, .int .i64 tm, .int .i64 rp], .int .i64 0])) eS.symm) eF.symm)
        clear eS eF
        go_wp2
        obtain ⟨fin_a, fin_b⟩ := HFIN.out
        have hE := HE.out
        clear HFIN HE
        exact bodyPost_ret (xr_results rfl rfl fin_a) rfl ⟨hE, fin_b⟩
      | false =>
        obtain ⟨W8, hW8⟩ : ∃ W8, W8 = ((W7.setCell ⟨w.heap.size, 5, none⟩ (.int .i64 1)).setCell ⟨w.heap.size, 5, none⟩ (.int .i64 2)) := ⟨_, rfl⟩
        have k8 : Only [w.heap.size] W7 W8 := by rw [hW8]; exact (only_put (put_only _ _ 5 _) 5 _)
        have pz8 := pz7.only k8 (by simp; omega)
        have b8 := b7.trans (k8.below b7.size (by simp))
        have HFIN := Lib.hid (And.intro (put14_cel pz8 (.int .i64 K) (.int .i64 H) (.int .i64 W) (.int .i64 T) (.int .i64 R) (.int .i64 2) (.slice A3 n3 c3) (.int .i64 AC) (.int .i64 FL) (.int .i64 FR) (.slice A2 n2 c2) (.int .i64 nw1) (.int .i64 tm) (.int .i64 rp)) (b8.trans ((put14_only W8 (w.heap.size + 1 + 1) (.int .i64 K) (.int .i64 H) (.int .i64 W) (.int .i64 T) (.int .i64 R) (.int .i64 2) (.slice A3 n3 c3) (.int .i64 AC) (.int .i64 FL) (.int .i64 FR) (.slice A2 n2 c2) (.int .i64 nw1) (.int .i64 tm) (.int .i64 rp)).below b8.size (by simp; omega))))
        unfold put14 at HFIN
        rw [hW8] at HFIN
        clear pr7 pz7 pq7 b7 k8 pz8 b8 hW8
        have eS : sTr = 2 := by rw [HsTr.out]; simp
        have eF : fLr = FL := by rw [HfLr.out]; simp
        have HE := Lib.hid (congr (congrArg (fun s f => Ending.returned (.tuple #[.agg #[.int .i64 K, .int .i64 H, .int .i64 W, .int .i64 T, .int .i64 R, .int .i64 s, .slice A3 n3 c3, .int .i64 AC, .int .i64 f, .int .i64 FR, .slice A2 n2 c2, .int .i64 nw1, .int .i64 tm, .int .i64 rp], .int .i64 0])) eS.symm) eF.symm)
        clear eS eF
        go_wp2
        obtain ⟨fin_a, fin_b⟩ := HFIN.out
        have hE := HE.out
        clear HFIN HE
        exact bodyPost_ret (xr_results rfl rfl fin_a) rfl ⟨hE, fin_b⟩
    | false =>
      cases rt with
      | true =>
        obtain ⟨W8, hW8⟩ : ∃ W8, W8 = ((W7.setCell ⟨w.heap.size, 8, none⟩ (.int .i64 0)).setCell ⟨w.heap.size, 5, none⟩ (.int .i64 1)) := ⟨_, rfl⟩
        have k8 : Only [w.heap.size] W7 W8 := by rw [hW8]; exact (only_put (put_only _ _ 8 _) 5 _)
        have pz8 := pz7.only k8 (by simp; omega)
        have b8 := b7.trans (k8.below b7.size (by simp))
        have HFIN := Lib.hid (And.intro (put14_cel pz8 (.int .i64 K) (.int .i64 H) (.int .i64 W) (.int .i64 T) (.int .i64 R) (.int .i64 1) (.slice A3 n3 c3) (.int .i64 AC) (.int .i64 0) (.int .i64 FR) (.slice A2 n2 c2) (.int .i64 nw1) (.int .i64 tm) (.int .i64 rp)) (b8.trans ((put14_only W8 (w.heap.size + 1 + 1) (.int .i64 K) (.int .i64 H) (.int .i64 W) (.int .i64 T) (.int .i64 R) (.int .i64 1) (.slice A3 n3 c3) (.int .i64 AC) (.int .i64 0) (.int .i64 FR) (.slice A2 n2 c2) (.int .i64 nw1) (.int .i64 tm) (.int .i64 rp)).below b8.size (by simp; omega))))
        unfold put14 at HFIN
        rw [hW8] at HFIN
        clear pr7 pz7 pq7 b7 k8 pz8 b8 hW8
        have eS : sTr = 1 := by rw [HsTr.out]; simp
        have eF : fLr = 0 := by rw [HfLr.out]; simp
        have HE := Lib.hid (congr (congrArg (fun s f => Ending.returned (.tuple #[.agg #[.int .i64 K, .int .i64 H, .int .i64 W, .int .i64 T, .int .i64 R, .int .i64 s, .slice A3 n3 c3, .int .i64 AC, .int .i64 f, .int .i64 FR, .slice A2 n2 c2, .int .i64 nw1, .int .i64 tm, .int .i64 rp], .int .i64 0])) eS.symm) eF.symm)
        clear eS eF
        go_wp2
        obtain ⟨fin_a, fin_b⟩ := HFIN.out
        have hE := HE.out
        clear HFIN HE
        exact bodyPost_ret (xr_results rfl rfl fin_a) rfl ⟨hE, fin_b⟩
      | false =>
        obtain ⟨W8, hW8⟩ : ∃ W8, W8 = (W7.setCell ⟨w.heap.size, 5, none⟩ (.int .i64 1)) := ⟨_, rfl⟩
        have k8 : Only [w.heap.size] W7 W8 := by rw [hW8]; exact (put_only _ _ 5 _)
        have pz8 := pz7.only k8 (by simp; omega)
        have b8 := b7.trans (k8.below b7.size (by simp))
        have HFIN := Lib.hid (And.intro (put14_cel pz8 (.int .i64 K) (.int .i64 H) (.int .i64 W) (.int .i64 T) (.int .i64 R) (.int .i64 1) (.slice A3 n3 c3) (.int .i64 AC) (.int .i64 FL) (.int .i64 FR) (.slice A2 n2 c2) (.int .i64 nw1) (.int .i64 tm) (.int .i64 rp)) (b8.trans ((put14_only W8 (w.heap.size + 1 + 1) (.int .i64 K) (.int .i64 H) (.int .i64 W) (.int .i64 T) (.int .i64 R) (.int .i64 1) (.slice A3 n3 c3) (.int .i64 AC) (.int .i64 FL) (.int .i64 FR) (.slice A2 n2 c2) (.int .i64 nw1) (.int .i64 tm) (.int .i64 rp)).below b8.size (by simp; omega))))
        unfold put14 at HFIN
        rw [hW8] at HFIN
        clear pr7 pz7 pq7 b7 k8 pz8 b8 hW8
        have eS : sTr = 1 := by rw [HsTr.out]; simp
        have eF : fLr = FL := by rw [HfLr.out]; simp
        have HE := Lib.hid (congr (congrArg (fun s f => Ending.returned (.tuple #[.agg #[.int .i64 K, .int .i64 H, .int .i64 W, .int .i64 T, .int .i64 R, .int .i64 s, .slice A3 n3 c3, .int .i64 AC, .int .i64 f, .int .i64 FR, .slice A2 n2 c2, .int .i64 nw1, .int .i64 tm, .int .i64 rp], .int .i64 0])) eS.symm) eF.symm)
        clear eS eF
        go_wp2
        obtain ⟨fin_a, fin_b⟩ := HFIN.out
        have hE := HE.out
        clear HFIN HE
        exact bodyPost_ret (xr_results rfl rfl fin_a) rfl ⟨hE, fin_b⟩
  by_cases h2 : st = 2
  · subst h2
    cases wt with
    | true =>
      cases rt with
      | true =>
        obtain ⟨W8, hW8⟩ : ∃ W8, W8 = (((W7.setCell ⟨w.heap.size, 8, none⟩ (.int .i64 0)).setCell ⟨w.heap.size, 5, none⟩ (.int .i64 1)).setCell ⟨w.heap.size, 5, none⟩ (.int .i64 2)) := ⟨_, rfl⟩
        have k8 : Only [w.heap.size] W7 W8 := by rw [hW8]; exact (only_put (only_put (put_only _ _ 8 _) 5 _) 5 _)
        have pz8 := pz7.only k8 (by simp; omega)
        have b8 := b7.trans (k8.below b7.size (by simp))
        have pr8 : Cel W8 w.heap.size 31 #[.int .i64 K, .int .i64 H, .int .i64 W, .int .i64 T, .int .i64 R, .int .i64 2, .slice A3 n3 c3, .int .i64 AC, .int .i64 0, .int .i64 FR, .slice A2 n2 c2, .int .i64 nw1, .int .i64 tm, .int .i64 rp] := by rw [hW8]; exact (((pr7.put 8 _).put 5 _).put 5 _)
        have HFIN := Lib.hid (And.intro (put14_cel pz8 (.int .i64 K) (.int .i64 H) (.int .i64 W) (.int .i64 T) (.int .i64 R) (.int .i64 2) (.slice A3 n3 c3) (.int .i64 AC) (.int .i64 0) (.int .i64 FR) (.slice A2 n2 c2) (.int .i64 nw1) (.int .i64 tm) (.int .i64 rp)) (b8.trans ((put14_only W8 (w.heap.size + 1 + 1) (.int .i64 K) (.int .i64 H) (.int .i64 W) (.int .i64 T) (.int .i64 R) (.int .i64 2) (.slice A3 n3 c3) (.int .i64 AC) (.int .i64 0) (.int .i64 FR) (.slice A2 n2 c2) (.int .i64 nw1) (.int .i64 tm) (.int .i64 rp)).below b8.size (by simp; omega))))
        unfold put14 at HFIN
        go_upto_region 24 with fail
        rw [← hW8]
        clear r0 yr0 z0 yz0 r1 yr1 z1 yz1 r2 yr2 z2 yz2 r3 yr3 z3 yz3 r4 yr4 z4 yz4 r5 yr5 z5 yz5 r6 yr6 z6 yz6 r7 yr7 z7 yz7 r8 yr8 z8 yz8 r9 yr9 z9 yz9 r10 yr10 z10 yz10 r11 yr11 z11 yz11 r12 yr12 z12 yz12 r13 yr13 z13 yz13 q0 q1 q2 q3 q4 q5 hW8 k8 pr7 pz7 pq7 b7 b8
        have r0 := pr8.cell 0
        have r1 := pr8.cell 1
        have r2 := pr8.cell 2
        have r3 := pr8.cell 3
        have r4 := pr8.cell 4
        have r5 := pr8.cell 5
        have r6 := pr8.cell 6
        have r7 := pr8.cell 7
        have r8 := pr8.cell 8
        have r9 := pr8.cell 9
        have r10 := pr8.cell 10
        have r11 := pr8.cell 11
        have r12 := pr8.cell 12
        have r13 := pr8.cell 13
        simp at r0 r1 r2 r3 r4 r5 r6 r7 r8 r9 r10 r11 r12 r13
        have z0 := pz8.cell 0
        have z1 := pz8.cell 1
        have z2 := pz8.cell 2
        have z3 := pz8.cell 3
        have z4 := pz8.cell 4
        have z5 := pz8.cell 5
        have z6 := pz8.cell 6
        have z7 := pz8.cell 7
        have z8 := pz8.cell 8
        have z9 := pz8.cell 9
        have z10 := pz8.cell 10
        have z11 := pz8.cell 11
        have z12 := pz8.cell 12
        have z13 := pz8.cell 13
        simp at z0 z1 z2 z3 z4 z5 z6 z7 z8 z9 z10 z11 z12 z13
        have yz0 := pz8.free 0
        have yz1 := pz8.free 1
        have yz2 := pz8.free 2
        have yz3 := pz8.free 3
        have yz4 := pz8.free 4
        have yz5 := pz8.free 5
        have yz6 := pz8.free 6
        have yz7 := pz8.free 7
        have yz8 := pz8.free 8
        have yz9 := pz8.free 9
        have yz10 := pz8.free 10
        have yz11 := pz8.free 11
        have yz12 := pz8.free 12
        have yz13 := pz8.free 13
        clear pr8 pz8
        have eS : sTr = 2 := by rw [HsTr.out]; simp
        have eF : fLr = 0 := by rw [HfLr.out]; simp
        have HE := Lib.hid (congr (congrArg (fun s f => Ending.returned (.tuple #[.agg #[.int .i64 K, .int .i64 H, .int .i64 W, .int .i64 T, .int .i64 R, .int .i64 s, .slice A3 n3 c3, .int .i64 AC, .int .i64 f, .int .i64 FR, .slice A2 n2 c2, .int .i64 nw1, .int .i64 tm, .int .i64 rp], .int .i64 0])) eS.symm) eF.symm)
        clear eS eF
        go_wp2
        obtain ⟨fin_a, fin_b⟩ := HFIN.out
        have hE := HE.out
        clear HFIN HE
        exact bodyPost_ret (xr_results rfl rfl fin_a) rfl ⟨hE, fin_b⟩
      | false =>
        obtain ⟨W8, hW8⟩ : ∃ W8, W8 = ((W7.setCell ⟨w.heap.size, 5, none⟩ (.int .i64 1)).setCell ⟨w.heap.size, 5, none⟩ (.int .i64 2)) := ⟨_, rfl⟩
        have k8 : Only [w.heap.size] W7 W8 := by rw [hW8]; exact (only_put (put_only _ _ 5 _) 5 _)
        have pz8 := pz7.only k8 (by simp; omega)
        have b8 := b7.trans (k8.below b7.size (by simp))
        have HFIN := Lib.hid (And.intro (put14_cel pz8 (.int .i64 K) (.int .i64 H) (.int .i64 W) (.int .i64 T) (.int .i64 R) (.int .i64 2) (.slice A3 n3 c3) (.int .i64 AC) (.int .i64 FL) (.int .i64 FR) (.slice A2 n2 c2) (.int .i64 nw1) (.int .i64 tm) (.int .i64 rp)) (b8.trans ((put14_only W8 (w.heap.size + 1 + 1) (.int .i64 K) (.int .i64 H) (.int .i64 W) (.int .i64 T) (.int .i64 R) (.int .i64 2) (.slice A3 n3 c3) (.int .i64 AC) (.int .i64 FL) (.int .i64 FR) (.slice A2 n2 c2) (.int .i64 nw1) (.int .i64 tm) (.int .i64 rp)).below b8.size (by simp; omega))))
        unfold put14 at HFIN
        rw [hW8] at HFIN
        clear pr7 pz7 pq7 b7 k8 pz8 b8 hW8
        have eS : sTr = 2 := by rw [HsTr.out]; simp
        have eF : fLr = FL := by rw [HfLr.out]; simp
        have HE := Lib.hid (congr (congrArg (fun s f => Ending.returned (.tuple #[.agg #[.int .i64 K, .int .i64 H, .int .i64 W, .int .i64 T, .int .i64 R, .int .i64 s, .slice A3 n3 c3, .int .i64 AC, .int .i64 f, .int .i64 FR, .slice A2 n2 c2, .int .i64 nw1, .int .i64 tm, .int .i64 rp], .int .i64 0])) eS.symm) eF.symm)
        clear eS eF
        go_wp2
        obtain ⟨fin_a, fin_b⟩ := HFIN.out
        have hE := HE.out
        clear HFIN HE
        exact bodyPost_ret (xr_results rfl rfl fin_a) rfl ⟨hE, fin_b⟩
    | false =>
      cases rt with
      | true =>
        obtain ⟨W8, hW8⟩ : ∃ W8, W8 = ((W7.setCell ⟨w.heap.size, 8, none⟩ (.int .i64 0)).setCell ⟨w.heap.size, 5, none⟩ (.int .i64 1)) := ⟨_, rfl⟩
        have k8 : Only [w.heap.size] W7 W8 := by rw [hW8]; exact (only_put (put_only _ _ 8 _) 5 _)
        have pz8 := pz7.only k8 (by simp; omega)
        have b8 := b7.trans (k8.below b7.size (by simp))
        have HFIN := Lib.hid (And.intro (put14_cel pz8 (.int .i64 K) (.int .i64 H) (.int .i64 W) (.int .i64 T) (.int .i64 R) (.int .i64 1) (.slice A3 n3 c3) (.int .i64 AC) (.int .i64 0) (.int .i64 FR) (.slice A2 n2 c2) (.int .i64 nw1) (.int .i64 tm) (.int .i64 rp)) (b8.trans ((put14_only W8 (w.heap.size + 1 + 1) (.int .i64 K) (.int .i64 H) (.int .i64 W) (.int .i64 T) (.int .i64 R) (.int .i64 1) (.slice A3 n3 c3) (.int .i64 AC) (.int .i64 0) (.int .i64 FR) (.slice A2 n2 c2) (.int .i64 nw1) (.int .i64 tm) (.int .i64 rp)).below b8.size (by simp; omega))))
        unfold put14 at HFIN
        rw [hW8] at HFIN
        clear pr7 pz7 pq7 b7 k8 pz8 b8 hW8
        have eS : sTr = 1 := by rw [HsTr.out]; simp
        have eF : fLr = 0 := by rw [HfLr.out]; simp
        have HE := Lib.hid (congr (congrArg (fun s f => Ending.returned (.tuple #[.agg #[.int .i64 K, .int .i64 H, .int .i64 W, .int .i64 T, .int .i64 R, .int .i64 s, .slice A3 n3 c3, .int .i64 AC, .int .i64 f, .int .i64 FR, .slice A2 n2 c2, .int .i64 nw1, .int .i64 tm, .int .i64 rp], .int .i64 0])) eS.symm) eF.symm)
        clear eS eF
        go_wp2
        obtain ⟨fin_a, fin_b⟩ := HFIN.out
        have hE := HE.out
        clear HFIN HE
        exact bodyPost_ret (xr_results rfl rfl fin_a) rfl ⟨hE, fin_b⟩
      | false =>
        obtain ⟨W8, hW8⟩ : ∃ W8, W8 = (W7.setCell ⟨w.heap.size, 5, none⟩ (.int .i64 1)) := ⟨_, rfl⟩
        have k8 : Only [w.heap.size] W7 W8 := by rw [hW8]; exact (put_only _ _ 5 _)
        have pz8 := pz7.only k8 (by simp; omega)
        have b8 := b7.trans (k8.below b7.size (by simp))
        have HFIN := Lib.hid (And.intro (put14_cel pz8 (.int .i64 K) (.int .i64 H) (.int .i64 W) (.int .i64 T) (.int .i64 R) (.int .i64 1) (.slice A3 n3 c3) (.int .i64 AC) (.int .i64 FL) (.int .i64 FR) (.slice A2 n2 c2) (.int .i64 nw1) (.int .i64 tm) (.int .i64 rp)) (b8.trans ((put14_only W8 (w.heap.size + 1 + 1) (.int .i64 K) (.int .i64 H) (.int .i64 W) (.int .i64 T) (.int .i64 R) (.int .i64 1) (.slice A3 n3 c3) (.int .i64 AC) (.int .i64 FL) (.int .i64 FR) (.slice A2 n2 c2) (.int .i64 nw1) (.int .i64 tm) (.int .i64 rp)).below b8.size (by simp; omega))))
        unfold put14 at HFIN
        rw [hW8] at HFIN
        clear pr7 pz7 pq7 b7 k8 pz8 b8 hW8
        have eS : sTr = 1 := by rw [HsTr.out]; simp
        have eF : fLr = FL := by rw [HfLr.out]; simp
        have HE := Lib.hid (congr (congrArg (fun s f => Ending.returned (.tuple #[.agg #[.int .i64 K, .int .i64 H, .int .i64 W, .int .i64 T, .int .i64 R, .int .i64 s, .slice A3 n3 c3, .int .i64 AC, .int .i64 f, .int .i64 FR, .slice A2 n2 c2, .int .i64 nw1, .int .i64 tm, .int .i64 rp], .int .i64 0])) eS.symm) eF.symm)
        clear eS eF
        go_wp2
        obtain ⟨fin_a, fin_b⟩ := HFIN.out
        have hE := HE.out
        clear HFIN HE
        exact bodyPost_ret (xr_results rfl rfl fin_a) rfl ⟨hE, fin_b⟩
  have hne12 : ¬ (st = 1 ∨ st = 2) := fun h => h.elim h1 h2
  have t5 : (st == 1) = false := by simpa using h1
  have t6 : (st == 2) = false := by simpa using h2
  clear h1 h2
  cases rt with
  | true =>
    obtain ⟨W8, hW8⟩ : ∃ W8, W8 = (W7.setCell ⟨w.heap.size, 8, none⟩ (.int .i64 0)) := ⟨_, rfl⟩
    have k8 : Only [w.heap.size] W7 W8 := by rw [hW8]; exact (put_only _ _ 8 _)
    have pz8 := pz7.only k8 (by simp; omega)
    have b8 := b7.trans (k8.below b7.size (by simp))
    have HFIN := Lib.hid (And.intro (put14_cel pz8 (.int .i64 K) (.int .i64 H) (.int .i64 W) (.int .i64 T) (.int .i64 R) (.int .i64 st) (.slice A3 n3 c3) (.int .i64 AC) (.int .i64 0) (.int .i64 FR) (.slice A2 n2 c2) (.int .i64 nw1) (.int .i64 tm) (.int .i64 rp)) (b8.trans ((put14_only W8 (w.heap.size + 1 + 1) (.int .i64 K) (.int .i64 H) (.int .i64 W) (.int .i64 T) (.int .i64 R) (.int .i64 st) (.slice A3 n3 c3) (.int .i64 AC) (.int .i64 0) (.int .i64 FR) (.slice A2 n2 c2) (.int .i64 nw1) (.int .i64 tm) (.int .i64 rp)).below b8.size (by simp; omega))))
    unfold put14 at HFIN
    rw [hW8] at HFIN
    clear pr7 pz7 pq7 b7 k8 pz8 b8 hW8
    have eS : sTr = st := by rw [HsTr.out]; exact if_neg hne12
    have eF : fLr = 0 := by rw [HfLr.out]; simp
    have HE := Lib.hid (congr (congrArg (fun s f => Ending.returned (.tuple #[.agg #[.int .i64 K, .int .i64 H, .int .i64 W, .int .i64 T, .int .i64 R, .int .i64 s, .slice A3 n3 c3, .int .i64 AC, .int .i64 f, .int .i64 FR, .slice A2 n2 c2, .int .i64 nw1, .int .i64 tm, .int .i64 rp], .int .i64 0])) eS.symm) eF.symm)
    clear eS eF hne12
    go_wp2
    obtain ⟨fin_a, fin_b⟩ := HFIN.out
    have hE := HE.out
    clear HFIN HE
    exact bodyPost_ret (xr_results rfl rfl fin_a) rfl ⟨hE, fin_b⟩
  | false =>
    have HFIN := Lib.hid (And.intro (put14_cel pz7 (.int .i64 K) (.int .i64 H) (.int .i64 W) (.int .i64 T) (.int .i64 R) (.int .i64 st) (.slice A3 n3 c3) (.int .i64 AC) (.int .i64 FL) (.int .i64 FR) (.slice A2 n2 c2) (.int .i64 nw1) (.int .i64 tm) (.int .i64 rp)) (b7.trans ((put14_only W7 (w.heap.size + 1 + 1) (.int .i64 K) (.int .i64 H) (.int .i64 W) (.int .i64 T) (.int .i64 R) (.int .i64 st) (.slice A3 n3 c3) (.int .i64 AC) (.int .i64 FL) (.int .i64 FR) (.slice A2 n2 c2) (.int .i64 nw1) (.int .i64 tm) (.int .i64 rp)).below b7.size (by simp; omega))))
    unfold put14 at HFIN
    clear pr7 pz7 pq7 b7
    have eS : sTr = st := by rw [HsTr.out]; exact if_neg hne12
    have eF : fLr = FL := by rw [HfLr.out]; simp
    have HE := Lib.hid (congr (congrArg (fun s f => Ending.returned (.tuple #[.agg #[.int .i64 K, .int .i64 H, .int .i64 W, .int .i64 T, .int .i64 R, .int .i64 s, .slice A3 n3 c3, .int .i64 AC, .int .i64 f, .int .i64 FR, .slice A2 n2 c2, .int .i64 nw1, .int .i64 tm, .int .i64 rp], .int .i64 0])) eS.symm) eF.symm)
    clear eS eF hne12
    go_wp2
    obtain ⟨fin_a, fin_b⟩ := HFIN.out
    have hE := HE.out
    clear HFIN HE
    exact bodyPost_ret (xr_results rfl rfl fin_a) rfl ⟨hE, fin_b⟩

end Go.Proofs.Ytdpjjhbfhlmolaa.Fop

/-
  The reference of layer 17: Report with acknowledged units.
-/
namespace Go.Proofs.Ytdpjjhbfhlmolaa.Fop
open Go.RowKit
open Pac (bel_new Cel.later)
open Clc (Cw zvalid_any)

set_option maxRecDepth 100000 in
set_option maxHeartbeats 16000000 in
theorem xrep_some (m ch : Int) (wt rt : Bool) (bp nx : Int) (K H W T R st : Int) (A : Option Addr) (n c : Nat) (ac fl fr : Int) (A2 : Option Addr) (n2 c2 : Nat) (nw tm rp : Int) (w : World) {nw1 : Int} (hN : adn m nw = nw1) (hc : ch = H) {D : Nat} (hV : Cw.ok ⟨ch, false, wt, rt, bp, nx⟩ = true) (n0 : 0 ≤ nx) (n1 : nx ≤ 255) (a0 : 0 ≤ ac) (a1 : ac ≤ 1099511627776) (hD : (nx - ac) % 256 = (D : Int)) (hf : (D : Int) ≤ fr) (hfl : 0 ≤ fl) (hfr : fr ≤ 256) (hff : fl ≤ fr) (hDn : D ≤ n) (hnc : n ≤ c) (_hz : A = none → c = 0) (hpos : 0 < D)
    {A3 : Option Addr} {c3 n3 : Nat} {AC FR FX FL : Int} (hA3 : (if c = D then A else Option.map (fun x => x.add D) A) = A3) (hc3 : c - D = c3) (hn3 : n - D = n3) (hAC : ac + (D : Int) = AC) (hFR : fr - (D : Int) = FR) (hFX : fl - (D : Int) = FX) (hFL : max FX 0 = FL) :
    Calls Try.prog 18 #[.agg #[.int .i64 K, .int .i64 H, .int .i64 W, .int .i64 T, .int .i64 R, .int .i64 st, .slice A n c, .int .i64 ac, .int .i64 fl, .int .i64 fr, .slice A2 n2 c2, .int .i64 nw, .int .i64 tm, .int .i64 rp], .agg #[.int .i64 ch, .bool false, .bool wt, .bool rt, .int .i64 bp, .int .i64 nx], .int .i64 m] w fun e w' => (e = .returned (.tuple #[.agg #[.int .i64 K, .int .i64 H, .int .i64 W, .int .i64 T, .int .i64 R, .int .i64 (if st = 1 ∨ st = 2 then (if wt then 2 else 1) else st), .slice A3 n3 c3, .int .i64 AC, .int .i64 (if rt then 0 else FL), .int .i64 FR, .slice A2 n2 c2, .int .i64 nw1, .int .i64 nw1, .int .i64 0], .int .i64 0])) ∧ Below w.heap.size w w' := by
  obtain ⟨N1, hN1⟩ : ∃ N1, N1 = nx + 256 := ⟨_, rfl⟩
  obtain ⟨M1, hM1⟩ : ∃ M1, M1 = ac % 256 := ⟨_, rfl⟩
  obtain ⟨X1, hX1⟩ : ∃ X1, X1 = N1 - M1 := ⟨_, rfl⟩
  have v0 : 0 ≤ M1 ∧ M1 ≤ 255 := by omega
  have v1 : nx + 256 = N1 := hN1.symm
  have v2 : wrap64 N1 = N1 := wr64 (by omega) (by omega)
  have v3 : ac.tmod 256 = M1 := by rw [Int.tmod_eq_emod_of_nonneg a0]; exact hM1.symm
  have v4 : ac % 256 = M1 := hM1.symm
  have v5 : N1 - M1 = X1 := hX1.symm
  have v6 : wrap64 X1 = X1 := wr64 (by omega) (by omega)
  have v7 : X1 % 256 = (D : Int) := by rw [← hD]; omega
  have v8 : X1.tmod 256 = (D : Int) := by rw [Int.tmod_eq_emod_of_nonneg (by omega)]; exact v7
  have t1 : (ch != H) = false := by simpa using hc
  clear hc
  have HV := Lib.hid (And.intro v1 (And.intro v2 (And.intro v3 (And.intro v4 (And.intro v5 (And.intro v6 (And.intro v7 v8)))))))
  clear hN1 hM1 hX1 v0 v1 v2 v3 v4 v5 v6 v7 v8
  have t2 : decide (fr < (D : Int)) = false := by simp; omega
  have t3 : decide ((0 : Int) < (D : Int)) = true := by simp; omega
  have t4 : decide (0 < D) = true := by simp; omega
  have g1 : wrap64 AC = AC := wr64 (by omega) (by omega)
  have g2 : wrap64 FR = FR := wr64 (by omega) (by omega)
  have g3 : wrap64 FX = FX := wr64 (by omega) (by omega)
  have g4 : (if FX < 0 then (0 : Int) else FX) = FL := by rw [← hFL]; split <;> omega
  have g5 : (D : Int) ≤ (n : Int) := by omega
  have g6 : D ≤ c := by omega
  have g7 : (D : Int) ≤ (c : Int) := by omega
  have g8 : (0 : Int) ≤ (D : Int) := Int.natCast_nonneg _
  have HG := Lib.hid (And.intro g1 (And.intro g2 (And.intro g3 (And.intro g4 (And.intro hFR (And.intro hFX (And.intro hFL hAC)))))))
  clear hD hf hfl hfr hff hnc hpos a0 a1 n0 n1 g1 g2 g3 g4 hFR hFX hFL hAC
  obtain ⟨fLr, hfLr⟩ : ∃ x, x = (if rt then 0 else FL) := ⟨_, rfl⟩
  obtain ⟨sTr, hsTr⟩ : ∃ x, x = (if st = 1 ∨ st = 2 then (if wt then 2 else 1) else st) := ⟨_, rfl⟩
  rw [← hfLr, ← hsTr]
  have HfLr := Lib.hid hfLr
  have HsTr := Lib.hid hsTr
  clear hfLr hsTr
  obtain ⟨w3, hw3⟩ : ∃ w3, w3 = ((w.alloc (.cells #[.int .i64 K, .int .i64 H, .int .i64 W, .int .i64 T, .int .i64 R, .int .i64 st, .slice A n c, .int .i64 ac, .int .i64 fl, .int .i64 fr, .slice A2 n2 c2, .int .i64 nw, .int .i64 tm, .int .i64 rp] 31)).alloc (.cells #[.int .i64 ch, .bool false, .bool wt, .bool rt, .int .i64 bp, .int .i64 nx] 35)).alloc (.cells #[.int .i64 0, .int .i64 0, .int .i64 0, .int .i64 0, .int .i64 0, .int .i64 0, .slice none 0 0, .int .i64 0, .int .i64 0, .int .i64 0, .slice none 0 0, .int .i64 0, .int .i64 0, .int .i64 0] 31) := ⟨_, rfl⟩
  have b3 : Below w.heap.size w w3 := by rw [hw3]; exact ((bel_new _ _).alloc (by simp) _).alloc (by simp; omega) _
  have pr3 : Cel w3 w.heap.size 31 #[.int .i64 K, .int .i64 H, .int .i64 W, .int .i64 T, .int .i64 R, .int .i64 st, .slice A n c, .int .i64 ac, .int .i64 fl, .int .i64 fr, .slice A2 n2 c2, .int .i64 nw, .int .i64 tm, .int .i64 rp] := by rw [hw3]; exact Cel.later (Cel.later (Cel_at rfl) (bel_new _ _)) (bel_new _ _)
  have pq3 : Cel w3 (w.heap.size + 1) 35 #[.int .i64 ch, .bool false, .bool wt, .bool rt, .int .i64 bp, .int .i64 nx] := by rw [hw3]; exact Cel.later (Cel_at (by simp)) (bel_new _ _)
  have pz3 : Cel w3 (w.heap.size + 1 + 1) 31 #[.int .i64 0, .int .i64 0, .int .i64 0, .int .i64 0, .int .i64 0, .int .i64 0, .slice none 0 0, .int .i64 0, .int .i64 0, .int .i64 0, .slice none 0 0, .int .i64 0, .int .i64 0, .int .i64 0] := by rw [hw3]; exact Cel_at (by simp)
  have xa := xat_any m K H W T R st A n c ac fl fr A2 n2 c2 nw tm rp w3 hN
  have HP := Lib.hid (And.intro pr3 (And.intro pz3 pq3))
  have HB := Lib.hid b3
  clear pr3 pz3 pq3 b3 hN
  go_enter Try.func18, Try.ntmps18
  go_wp2_with fail
  rw [← hw3]
  clear hw3
  refine xa.mono ?_
  rintro e w4 ⟨rfl, k4⟩
  clear xa
  have pr4 := Cel.later HP.out.1 k4
  have pz4 := Cel.later HP.out.2.1 k4
  have pq4 := Cel.later HP.out.2.2 k4
  have b4 := HB.out.trans (k4.mono HB.out.size)
  obtain ⟨W5, hW5⟩ : ∃ W5, W5 = put14 w4 w.heap.size (.int .i64 K) (.int .i64 H) (.int .i64 W) (.int .i64 T) (.int .i64 R) (.int .i64 st) (.slice A n c) (.int .i64 ac) (.int .i64 fl) (.int .i64 fr) (.slice A2 n2 c2) (.int .i64 nw1) (.int .i64 tm) (.int .i64 rp) := ⟨_, rfl⟩
  have k5 : Only [w.heap.size] w4 W5 := by rw [hW5]; exact put14_only _ _ _ _ _ _ _ _ _ _ _ _ _ _ _ _
  have pr5 : Cel W5 w.heap.size 31 #[.int .i64 K, .int .i64 H, .int .i64 W, .int .i64 T, .int .i64 R, .int .i64 st, .slice A n c, .int .i64 ac, .int .i64 fl, .int .i64 fr, .slice A2 n2 c2, .int .i64 nw1, .int .i64 tm, .int .i64 rp] := by rw [hW5]; exact put14_cel pr4 _ _ _ _ _ _ _ _ _ _ _ _ _ _
  have pz5 := pz4.only k5 (by simp; omega)
  have pq5 := pq4.only k5 (by simp)
  have b5 := b4.trans (k5.below b4.size (by simp))
  unfold put14 at hW5
  have a0 := pr4.cell 0
  have a1 := pr4.cell 1
  have a2 := pr4.cell 2
  have a3 := pr4.cell 3
  have a4 := pr4.cell 4
  have a5 := pr4.cell 5
  have a6 := pr4.cell 6
  have a7 := pr4.cell 7
  have a8 := pr4.cell 8
  have a9 := pr4.cell 9
  have a10 := pr4.cell 10
  have a11 := pr4.cell 11
  have a12 := pr4.cell 12
  have a13 := pr4.cell 13
  simp at a0 a1 a2 a3 a4 a5 a6 a7 a8 a9 a10 a11 a12 a13
  have ya0 := pr4.free 0
  have ya1 := pr4.free 1
  have ya2 := pr4.free 2
  have ya3 := pr4.free 3
  have ya4 := pr4.free 4
  have ya5 := pr4.free 5
  have ya6 := pr4.free 6
  have ya7 := pr4.free 7
  have ya8 := pr4.free 8
  have ya9 := pr4.free 9
  have ya10 := pr4.free 10
  have ya11 := pr4.free 11
  have ya12 := pr4.free 12
  have ya13 := pr4.free 13
  clear k4 k5 pz4 pq4 b4 pr4
  go_upto_region 2 with fail
  rw [← hW5]
  clear hW5 a0 ya0 a1 ya1 a2 ya2 a3 ya3 a4 ya4 a5 ya5 a6 ya6 a7 ya7 a8 ya8 a9 ya9 a10 ya10 a11 ya11 a12 ya12 a13 ya13
  have q0 := pq5.cell 0
  have q1 := pq5.cell 1
  have q2 := pq5.cell 2
  have q3 := pq5.cell 3
  have q4 := pq5.cell 4
  have q5 := pq5.cell 5
  simp at q0 q1 q2 q3 q4 q5
  go_wp2_with fail
  refine (zvalid_any ch false wt rt bp nx W5).mono ?_
  rintro e w6 ⟨rfl, k6⟩
  rw [hV]
  have pr6 := Cel.later pr5 k6
  have pz6 := Cel.later pz5 k6
  have pq6 := Cel.later pq5 k6
  have b6 := b5.trans (k6.mono b5.size)
  clear k6 pr5 pz5 pq5 b5 hV q0 q1 q2 q3 q4 q5
  have r0 := pr6.cell 0
  have r1 := pr6.cell 1
  have r2 := pr6.cell 2
  have r3 := pr6.cell 3
  have r4 := pr6.cell 4
  have r5 := pr6.cell 5
  have r6 := pr6.cell 6
  have r7 := pr6.cell 7
  have r8 := pr6.cell 8
  have r9 := pr6.cell 9
  have r10 := pr6.cell 10
  have r11 := pr6.cell 11
  have r12 := pr6.cell 12
  have r13 := pr6.cell 13
  simp at r0 r1 r2 r3 r4 r5 r6 r7 r8 r9 r10 r11 r12 r13
  have yr0 := pr6.free 0
  have yr1 := pr6.free 1
  have yr2 := pr6.free 2
  have yr3 := pr6.free 3
  have yr4 := pr6.free 4
  have yr5 := pr6.free 5
  have yr6 := pr6.free 6
  have yr7 := pr6.free 7
  have yr8 := pr6.free 8
  have yr9 := pr6.free 9
  have yr10 := pr6.free 10
  have yr11 := pr6.free 11
  have yr12 := pr6.free 12
  have yr13 := pr6.free 13
  have z0 := pz6.cell 0
  have z1 := pz6.cell 1
  have z2 := pz6.cell 2
  have z3 := pz6.cell 3
  have z4 := pz6.cell 4
  have z5 := pz6.cell 5
  have z6 := pz6.cell 6
  have z7 := pz6.cell 7
  have z8 := pz6.cell 8
  have z9 := pz6.cell 9
  have z10 := pz6.cell 10
  have z11 := pz6.cell 11
  have z12 := pz6.cell 12
  have z13 := pz6.cell 13
  simp at z0 z1 z2 z3 z4 z5 z6 z7 z8 z9 z10 z11 z12 z13
  have yz0 := pz6.free 0
  have yz1 := pz6.free 1
  have yz2 := pz6.free 2
  have yz3 := pz6.free 3
  have yz4 := pz6.free 4
  have yz5 := pz6.free 5
  have yz6 := pz6.free 6
  have yz7 := pz6.free 7
  have yz8 := pz6.free 8
  have yz9 := pz6.free 9
  have yz10 := pz6.free 10
  have yz11 := pz6.free 11
  have yz12 := pz6.free 12
  have yz13 := pz6.free 13
  have q0 := pq6.cell 0
  have q1 := pq6.cell 1
  have q2 := pq6.cell 2
  have q3 := pq6.cell 3
  have q4 := pq6.cell 4
  have q5 := pq6.cell 5
  simp at q0 q1 q2 q3 q4 q5
  go_upto_region 7 with fail
  obtain ⟨v1, v2, v3, v4, v5, v6, v7, v8⟩ := HV.out
  go_upto_region 8 with fail
  clear v1 v2 v3 v4 v5 v6 v7 v8
  obtain ⟨gg1, gg2, gg3, gg4, gFR, gFX, gFL, gAC⟩ := HG.out
  obtain ⟨W7, hW7⟩ : ∃ W7, W7 = ((((((w6.setCell ⟨w.heap.size, 6, none⟩ (.slice A3 n3 c3)).setCell ⟨w.heap.size, 7, none⟩ (.int .i64 AC)).setCell ⟨w.heap.size, 9, none⟩ (.int .i64 FR)).setCell ⟨w.heap.size, 8, none⟩ (.int .i64 FL)).setCell ⟨w.heap.size, 13, none⟩ (.int .i64 0)).setCell ⟨w.heap.size, 12, none⟩ (.int .i64 nw1)) := ⟨_, rfl⟩
  have k7 : Only [w.heap.size] w6 W7 := by rw [hW7]; exact (only_put (only_put (only_put (only_put (only_put (put_only _ _ 6 _) 7 _) 9 _) 8 _) 13 _) 12 _)
  have pr7 : Cel W7 w.heap.size 31 #[.int .i64 K, .int .i64 H, .int .i64 W, .int .i64 T, .int .i64 R, .int .i64 st, .slice A3 n3 c3, .int .i64 AC, .int .i64 FL, .int .i64 FR, .slice A2 n2 c2, .int .i64 nw1, .int .i64 nw1, .int .i64 0] := by rw [hW7]; exact ((((((pr6.put 6 _).put 7 _).put 9 _).put 8 _).put 13 _).put 12 _)
  have pz7 := pz6.only k7 (by simp; omega)
  have pq7 := pq6.only k7 (by simp)
  have b7 := b6.trans (k7.below b6.size (by simp))
  go_upto_region 18 with fail
  rw [← hW7]
  clear r0 yr0 z0 yz0 r1 yr1 z1 yz1 r2 yr2 z2 yz2 r3 yr3 z3 yz3 r4 yr4 z4 yz4 r5 yr5 z5 yz5 r6 yr6 z6 yz6 r7 yr7 z7 yz7 r8 yr8 z8 yz8 r9 yr9 z9 yz9 r10 yr10 z10 yz10 r11 yr11 z11 yz11 r12 yr12 z12 yz12 r13 yr13 z13 yz13 q0 q1 q2 q3 q4 q5 hW7 k7 pr6 pz6 pq6 b6
  have r0 := pr7.cell 0
  have r1 := pr7.cell 1
  have r2 := pr7.cell 2
  have r3 := pr7.cell 3
  have r4 := pr7.cell 4
  have r5 := pr7.cell 5
  have r6 := pr7.cell 6
  have r7 := pr7.cell 7
  have r8 := pr7.cell 8
  have r9 := pr7.cell 9
  have r10 := pr7.cell 10
  have r11 := pr7.cell 11
  have r12 := pr7.cell 12
  have r13 := pr7.cell 13
  simp at r0 r1 r2 r3 r4 r5 r6 r7 r8 r9 r10 r11 r12 r13
  have yr0 := pr7.free 0
  have yr1 := pr7.free 1
  have yr2 := pr7.free 2
  have yr3 := pr7.free 3
  have yr4 := pr7.free 4
  have yr5 := pr7.free 5
  have yr6 := pr7.free 6
  have yr7 := pr7.free 7
  have yr8 := pr7.free 8
  have yr9 := pr7.free 9
  have yr10 := pr7.free 10
  have yr11 := pr7.free 11
  have yr12 := pr7.free 12
  have yr13 := pr7.free 13
  have z0 := pz7.cell 0
  have z1 := pz7.cell 1
  have z2 := pz7.cell 2
  have z3 := pz7.cell 3
  have z4 := pz7.cell 4
  have z5 := pz7.cell 5
  have z6 := pz7.cell 6
  have z7 := pz7.cell 7
  have z8 := pz7.cell 8
  have z9 := pz7.cell 9
  have z10 := pz7.cell 10
  have z11 := pz7.cell 11
  have z12 := pz7.cell 12
  have z13 := pz7.cell 13
  simp at z0 z1 z2 z3 z4 z5 z6 z7 z8 z9 z10 z11 z12 z13
  have yz0 := pz7.free 0
  have yz1 := pz7.free 1
  have yz2 := pz7.free 2
  have yz3 := pz7.free 3
  have yz4 := pz7.free 4
  have yz5 := pz7.free 5
  have yz6 := pz7.free 6
  have yz7 := pz7.free 7
  have yz8 := pz7.free 8
  have yz9 := pz7.free 9
  have yz10 := pz7.free 10
  have yz11 := pz7.free 11
  have yz12 := pz7.free 12
  have yz13 := pz7.free 13
  have q0 := pq7.cell 0
  have q1 := pq7.cell 1
  have q2 := pq7.cell 2
  have q3 := pq7.cell 3
  have q4 := pq7.cell 4
  have q5 := pq7.cell 5
  simp at q0 q1 q2 q3 q4 q5
  by_cases h1 : st = 1
  · subst h1
    cases wt with
    | true =>
      cases rt with
      | true =>
        obtain ⟨W8, hW8⟩ : ∃ W8, W8 = (((W7.setCell ⟨w.heap.size, 8, none⟩ (.int .i64 0)).setCell ⟨w.heap.size, 5, none⟩ (.int .i64 1)).setCell ⟨w.heap.size, 5, none⟩ (.int .i64 2)) := ⟨_, rfl⟩
        have k8 : Only [w.heap.size] W7 W8 := by rw [hW8]; exact (only_put (only_put (put_only _ _ 8 _) 5 _) 5 _)
        have pz8 := pz7.only k8 (by simp; omega)
        have b8 := b7.trans (k8.below b7.size (by simp))
        have pr8 : Cel W8 w.heap.size 31 #[.int .i64 K, .int .i64 H, .int .i64 W, .int .i64 T, .int .i64 R, .int .i64 2, .slice A3 n3 c3, .int .i64 AC, .int .i64 0, .int .i64 FR, .slice A2 n2 c2, .int .i64 nw1, .int .i64 nw1, .int .i64 0] := by rw [hW8]; exact (((pr7.put 8 _).put 5 _).put 5 _)
        have HFIN := Lib.hid (And.intro (put14_cel pz8 (.int .i64 K) (.int .i64 H) (.int .i64 W) (.int .i64 T) (.int .i64 R) (.int .i64 2) (.slice A3 n3 c3) (.int .i64 AC) (.int .i64 0) (.int .i64 FR) (.slice A2 n2 c2) (.int .i64 nw1) (.int .i64 nw1) (.int .i64 0)) (b8.trans ((put14_only W8 (w.heap.size + 1 + 1) (.int .i64 K) (.int .i64 H) (.int .i64 W) (.int .i64 T) (.int .i64 R) (.int .i64 2) (.slice A3 n3 c3) (.int .i64 AC) (.int .i64 0) (.int .i64 FR) (.slice A2 n2 c2) (.int .i64 nw1) (.int .i64 nw1) (.int .i64 0)).below b8.size (by simp; omega))))
        unfold put14 at HFIN
        go_upto_region 24 with fail
        rw [← hW8]
        clear r0 yr0 z0 yz0 r1 yr1 z1 yz1 r2 yr2 z2 yz2 r3 yr3 z3 yz3 r4 yr4 z4 yz4 r5 yr5 z5 yz5 r6 yr6 z6 yz6 r7 yr7 z7 yz7 r8 yr8 z8 yz8 r9 yr9 z9 yz9 r10 yr10 z10 yz10 r11 yr11 z11 yz11 r12 yr12 z12 yz12 r13 yr13 z13 yz13 q0 q1 q2 q3 q4 q5 hW8 k8 pr7 pz7 pq7 b7 b8
        have r0 := pr8.cell 0
        have r1 := pr8.cell 1
        have r2 := pr8.cell 2
        have r3 := pr8.cell 3
        have r4 := pr8.cell 4
        have r5 := pr8.cell 5
        have r6 := pr8.cell 6
        have r7 := pr8.cell 7
        have r8 := pr8.cell 8
        have r9 := pr8.cell 9
        have r10 := pr8.cell 10
        have r11 := pr8.cell 11
        have r12 := pr8.cell 12
        have r13 := pr8.cell 13
        simp at r0 r1 r2 r3 r4 r5 r6 r7 r8 r9 r10 r11 r12 r13
        have z0 := pz8.cell 0
        have z1 := pz8.cell 1
        have z2 := pz8.cell 2
        have z3 := pz8.cell 3
        have z4 := pz8.cell 4
        have z5 := pz8.cell 5
        have z6 := pz8.cell 6
        have z7 := pz8.cell 7
        have z8 := pz8.cell 8
        have z9 := pz8.cell 9
        have z10 := pz8.cell 10
        have z11 := pz8.cell 11
        have z12 := pz8.cell 12
        have z13 := pz8.cell 13
        simp at z0 z1 z2 z3 z4 z5 z6 z7 z8 z9 z10 z11 z12 z13
        have yz0 := pz8.free 0
        have yz1 := pz8.free 1
        have yz2 := pz8.free 2
        have yz3 := pz8.free 3
        have yz4 := pz8.free 4
        have yz5 := pz8.free 5
        have yz6 := pz8.free 6
        have yz7 := pz8.free 7
        have yz8 := pz8.free 8
        have yz9 := pz8.free 9
        have yz10 := pz8.free 10
        have yz11 := pz8.free 11
        have yz12 := pz8.free 12
        have yz13 := pz8.free 13
        clear pr8 pz8
        have eS : sTr = 2 := by rw [HsTr.out]; simp
        have eF : fLr = 0 := by rw [HfLr.out]; simp
        have HE := Lib.hid (congr (congrArg (fun s f => Ending.returned (.tuple #[.agg #[.int .i64 K, .int .i64 H, .int .i64 W, .int .i64 T, .int .i64 R, .int .i64 s, .slice A3 n3 c3, .int .i64 AC, .int .i64 f, .int .i64 FR, .slice A2 n2 c2, .int .i64 nw1, .int .i64 nw1, .int .i64 0], .int .i64 0])) eS.symm) eF.symm)
        clear eS eF
        go_wp2
        obtain ⟨fin_a, fin_b⟩ := HFIN.out
        have hE := HE.out
        clear HFIN HE
        exact bodyPost_ret (xr_results rfl rfl fin_a) rfl ⟨hE, fin_b⟩
      | false =>
        obtain ⟨W8, hW8⟩ : ∃ W8, W8 = ((W7.setCell ⟨w.heap.size, 5, none⟩ (.int .i64 1)).setCell ⟨w.heap.size, 5, none⟩ (.int .i64 2)) := ⟨_, rfl⟩
        have k8 : Only [w.heap.size] W7 W8 := by rw [hW8]; exact (only_put (put_only _ _ 5 _) 5 _)
        have pz8 := pz7.only k8 (by simp; omega)
        have b8 := b7.trans (k8.below b7.size (by simp))
        have HFIN := Lib.hid (And.intro (put14_cel pz8 (.int .i64 K) (.int .i64 H) (.int .i64 W) (.int .i64 T) (.int .i64 R) (.int .i64 2) (.slice A3 n3 c3) (.int .i64 AC) (.int .i64 FL) (.int .i64 FR) (.slice A2 n2 c2) (.int .i64 nw1) (.int .i64 nw1) (.int .i64 0)) (b8.trans ((put14_only W8 (w.heap.size + 1 + 1) (.int .i64 K) (.int .i64 H) (.int .i64 W) (.int .i64 T) (.int .i64 R) (.int .i64 2) (.slice A3 n3 c3) (.int .i64 AC) (.int .i64 FL) (.int .i64 FR) (.slice A2 n2 c2) (.int .i64 nw1) (.int .i64 nw1) (.int .i64 0)).below b8.size (by simp; omega))))
        unfold put14 at HFIN
        rw [hW8] at HFIN
        clear pr7 pz7 pq7 b7 k8 pz8 b8 hW8
        have eS : sTr = 2 := by rw [HsTr.out]; simp
        have eF : fLr = FL := by rw [HfLr.out]; simp
        have HE := Lib.hid (congr (congrArg (fun s f => Ending.returned (.tuple #[.agg #[.int .i64 K, .int .i64 H, .int .i64 W, .int .i64 T, .int .i64 R, .int .i64 s, .slice A3 n3 c3, .int .i64 AC, .int .i64 f, .int .i64 FR, .slice A2 n2 c2, .int .i64 nw1, .int .i64 nw1, .int .i64 0], .int .i64 0])) eS.symm) eF.symm)
        clear eS eF
        go_wp2
        obtain ⟨fin_a, fin_b⟩ := HFIN.out
        have hE := HE.out
        clear HFIN HE
        exact bodyPost_ret (xr_results rfl rfl fin_a) rfl ⟨hE, fin_b⟩
    | false =>
      cases rt with
      | true =>
        obtain ⟨W8, hW8⟩ : ∃ W8, W8 = ((W7.setCell ⟨w.heap.size, 8, none⟩ (.int .i64 0)).setCell ⟨w.heap.size, 5, none⟩ (.int .i64 1)) := ⟨_, rfl⟩
        have k8 : Only [w.heap.size] W7 W8 := by rw [hW8]; exact (only_put (put_only _ _ 8 _) 5 _)
        have pz8 := pz7.only k8 (by simp; omega)
        have b8 := b7.trans (k8.below b7.size (by simp))
        have HFIN := Lib.hid (And.intro (put14_cel pz8 (.int .i64 K) (.int .i64 H) (.int .i64 W) (.int .i64 T) (.int .i64 R) (.int .i64 1) (.slice A3 n3 c3) (.int .i64 AC) (.int .i64 0) (.int .i64 FR) (.slice A2 n2 c2) (.int .i64 nw1) (.int .i64 nw1) (.int .i64 0)) (b8.trans ((put14_only W8 (w.heap.size + 1 + 1) (.int .i64 K) (.int .i64 H) (.int .i64 W) (.int .i64 T) (.int .i64 R) (.int .i64 1) (.slice A3 n3 c3) (.int .i64 AC) (.int .i64 0) (.int .i64 FR) (.slice A2 n2 c2) (.int .i64 nw1) (.int .i64 nw1) (.int .i64 0)).below b8.size (by simp; omega))))
        unfold put14 at HFIN
        rw [hW8] at HFIN
        clear pr7 pz7 pq7 b7 k8 pz8 b8 hW8
        have eS : sTr = 1 := by rw [HsTr.out]; simp
        have eF : fLr = 0 := by rw [HfLr.out]; simp
        have HE := Lib.hid (congr (congrArg (fun s f => Ending.returned (.tuple #[.agg #[.int .i64 K, .int .i64 H, .int .i64 W, .int .i64 T, .int .i64 R, .int .i64 s, .slice A3 n3 c3, .int .i64 AC, .int .i64 f, .int .i64 FR, .slice A2 n2 c2, .int .i64 nw1, .int .i64 nw1, .int .i64 0], .int .i64 0])) eS.symm) eF.symm)
        clear eS eF
        go_wp2
        obtain ⟨fin_a, fin_b⟩ := HFIN.out
        have hE := HE.out
        clear HFIN HE
        exact bodyPost_ret (xr_results rfl rfl fin_a) rfl ⟨hE, fin_b⟩
      | false =>
        obtain ⟨W8, hW8⟩ : ∃ W8, W8 = (W7.setCell ⟨w.heap.size, 5, none⟩ (.int .i64 1)) := ⟨_, rfl⟩
        have k8 : Only [w.heap.size] W7 W8 := by rw [hW8]; exact (put_only _ _ 5 _)
        have pz8 := pz7.only k8 (by simp; omega)
        have b8 := b7.trans (k8.below b7.size (by simp))
        have HFIN := Lib.hid (And.intro (put14_cel pz8 (.int .i64 K) (.int .i64 H) (.int .i64 W) (.int .i64 T) (.int .i64 R) (.int .i64 1) (.slice A3 n3 c3) (.int .i64 AC) (.int .i64 FL) (.int .i64 FR) (.slice A2 n2 c2) (.int .i64 nw1) (.int .i64 nw1) (.int .i64 0)) (b8.trans ((put14_only W8 (w.heap.size + 1 + 1) (.int .i64 K) (.int .i64 H) (.int .i64 W) (.int .i64 T) (.int .i64 R) (.int .i64 1) (.slice A3 n3 c3) (.int .i64 AC) (.int .i64 FL) (.int .i64 FR) (.slice A2 n2 c2) (.int .i64 nw1) (.int .i64 nw1) (.int .i64 0)).below b8.size (by simp; omega))))
        unfold put14 at HFIN
        rw [hW8] at HFIN
        clear pr7 pz7 pq7 b7 k8 pz8 b8 hW8
        have eS : sTr = 1 := by rw [HsTr.out]; simp
        have eF : fLr = FL := by rw [HfLr.out]; simp
        have HE := Lib.hid (congr (congrArg (fun s f => Ending.returned (.tuple #[.agg #[.int .i64 K, .int .i64 H, .int .i64 W, .int .i64 T, .int .i64 R, .int .i64 s, .slice A3 n3 c3, .int .i64 AC, .int .i64 f, .int .i64 FR, .slice A2 n2 c2, .int .i64 nw1, .int .i64 nw1, .int .i64 0], .int .i64 0])) eS.symm) eF.symm)
        clear eS eF
        go_wp2
        obtain ⟨fin_a, fin_b⟩ := HFIN.out
        have hE := HE.out
        clear HFIN HE
        exact bodyPost_ret (xr_results rfl rfl fin_a) rfl ⟨hE, fin_b⟩
  by_cases h2 : st = 2
  · subst h2
    cases wt with
    | true =>
      cases rt with
      | true =>
        obtain ⟨W8, hW8⟩ : ∃ W8, W8 = (((W7.setCell ⟨w.heap.size, 8, none⟩ (.int .i64 0)).setCell ⟨w.heap.size, 5, none⟩ (.int .i64 1)).setCell ⟨w.heap.size, 5, none⟩ (.int .i64 2)) := ⟨_, rfl⟩
        have k8 : Only [w.heap.size] W7 W8 := by rw [hW8]; exact (only_put (only_put (put_only _ _ 8 _) 5 _) 5 _)
        have pz8 := pz7.only k8 (by simp; omega)
        have b8 := b7.trans (k8.below b7.size (by simp))
        have pr8 : Cel W8 w.heap.size 31 #[.int .i64 K, .int .i64 H, .int .i64 W, .int .i64 T, .int .i64 R, .int .i64 2, .slice A3 n3 c3, .int .i64 AC, .int .i64 0, .int .i64 FR, .slice A2 n2 c2, .int .i64 nw1, .int .i64 nw1, .int .i64 0] := by rw [hW8]; exact (((pr7.put 8 _).put 5 _).put 5 _)
        have HFIN := Lib.hid (And.intro (put14_cel pz8 (.int .i64 K) (.int .i64 H) (.int .i64 W) (.int .i64 T) (.int .i64 R) (.int .i64 2) (.slice A3 n3 c3) (.int .i64 AC) (.int .i64 0) (.int .i64 FR) (.slice A2 n2 c2) (.int .i64 nw1) (.int .i64 nw1) (.int .i64 0)) (b8.trans ((put14_only W8 (w.heap.size + 1 + 1) (.int .i64 K) (.int .i64 H) (.int .i64 W) (.int .i64 T) (.int .i64 R) (.int .i64 2) (.slice A3 n3 c3) (.int .i64 AC) (.int .i64 0) (.int .i64 FR) (.slice A2 n2 c2) (.int .i64 nw1) (.int .i64 nw1) (.int .i64 0)).below b8.size (by simp; omega))))
        unfold put14 at HFIN
        go_upto_region 24 with fail
        rw [← hW8]
        clear r0 yr0 z0 yz0 r1 yr1 z1 yz1 r2 yr2 z2 yz2 r3 yr3 z3 yz3 r4 yr4 z4 yz4 r5 yr5 z5 yz5 r6 yr6 z6 yz6 r7 yr7 z7 yz7 r8 yr8 z8 yz8 r9 yr9 z9 yz9 r10 yr10 z10 yz10 r11 yr11 z11 yz11 r12 yr12 z12 yz12 r13 yr13 z13 yz13 q0 q1 q2 q3 q4 q5 hW8 k8 pr7 pz7 pq7 b7 b8
        have r0 := pr8.cell 0
        have r1 := pr8.cell 1
        have r2 := pr8.cell 2
        have r3 := pr8.cell 3
        have r4 := pr8.cell 4
        have r5 := pr8.cell 5
        have r6 := pr8.cell 6
        have r7 := pr8.cell 7
        have r8 := pr8.cell 8
        have r9 := pr8.cell 9
        have r10 := pr8.cell 10
        have r11 := pr8.cell 11
        have r12 := pr8.cell 12
        have r13 := pr8.cell 13
        simp at r0 r1 r2 r3 r4 r5 r6 r7 r8 r9 r10 r11 r12 r13
        have z0 := pz8.cell 0
        have z1 := pz8.cell 1
        have z2 := pz8.cell 2
        have z3 := pz8.cell 3
        have z4 := pz8.cell 4
        have z5 := pz8.cell 5
        have z6 := pz8.cell 6
        have z7 := pz8.cell 7
        have z8 := pz8.cell 8
        have z9 := pz8.cell 9
        have z10 := pz8.cell 10
        have z11 := pz8.cell 11
        have z12 := pz8.cell 12
        have z13 := pz8.cell 13
        simp at z0 z1 z2 z3 z4 z5 z6 z7 z8 z9 z10 z11 z12 z13
        have yz0 := pz8.free 0
        have yz1 := pz8.free 1
        have yz2 := pz8.free 2
        have yz3 := pz8.free 3
        have yz4 := pz8.free 4
        have yz5 := pz8.free 5
        have yz6 := pz8.free 6
        have yz7 := pz8.free 7
        have yz8 := pz8.free 8
        have yz9 := pz8.free 9
        have yz10 := pz8.free 10
        have yz11 := pz8.free 11
        have yz12 := pz8.free 12
        have yz13 := pz8.free 13
        clear pr8 pz8
        have eS : sTr = 2 := by rw [HsTr.out]; simp
        have eF : fLr = 0 := by rw [HfLr.out]; simp
        have HE := Lib.hid (congr (congrArg (fun s f => Ending.returned (.tuple #[.agg #[.int .i64 K, .int .i64 H, .int .i64 W, .int .i64 T, .int .i64 R, .int .i64 s, .slice A3 n3 c3, .int .i64 AC, .int .i64 f, .int .i64 FR, .slice A2 n2 c2, .int .i64 nw1, .int .i64 nw1, .int .i64 0], .int .i64 0])) eS.symm) eF.symm)
        clear eS eF
        go_wp2
        obtain ⟨fin_a, fin_b⟩ := HFIN.out
        have hE := HE.out
        clear HFIN HE
        exact bodyPost_ret (xr_results rfl rfl fin_a) rfl ⟨hE, fin_b⟩
      | false =>
        obtain ⟨W8, hW8⟩ : ∃ W8, W8 = ((W7.setCell ⟨w.heap.size, 5, none⟩ (.int .i64 1)).setCell ⟨w.heap.size, 5, none⟩ (.int .i64 2)) := ⟨_, rfl⟩
        have k8 : Only [w.heap.size] W7 W8 := by rw [hW8]; exact (only_put (put_only _ _ 5 _) 5 _)
        have pz8 := pz7.only k8 (by simp; omega)
        have b8 := b7.trans (k8.below b7.size (by simp))
        have HFIN := Lib.hid (And.intro (put14_cel pz8 (.int .i64 K) (.int .i64 H) (.int .i64 W) (.int .i64 T) (.int .i64 R) (.int .i64 2) (.slice A3 n3 c3) (.int .i64 AC) (.int .i64 FL) (.int .i64 FR) (.slice A2 n2 c2) (.int .i64 nw1) (.int .i64 nw1) (.int .i64 0)) (b8.trans ((put14_only W8 (w.heap.size + 1 + 1) (.int .i64 K) (.int .i64 H) (.int .i64 W) (.int .i64 T) (.int .i64 R) (.int .i64 2) (.slice A3 n3 c3) (.int .i64 AC) (.int .i64 FL) (.int .i64 FR) (.slice A2 n2 c2) (.int .i64 nw1) (.int .i64 nw1) (.int .i64 0)).below b8.size (by simp; omega))))
        unfold put14 at HFIN
        rw [hW8] at HFIN
        clear pr7 pz7 pq7 b7 k8 pz8 b8 hW8
        have eS : sTr = 2 := by rw [HsTr.out]; simp
        have eF : fLr = FL := by rw [HfLr.out]; simp
        have HE := Lib.hid (congr (congrArg (fun s f => Ending.returned (.tuple #[.agg #[.int .i64 K, .int .i64 H, .int .i64 W, .int .i64 T, .int .i64 R, .int .i64 s, .slice A3 n3 c3, .int .i64 AC, .int .i64 f, .int .i64 FR, .slice A2 n2 c2, .int .i64 nw1, .int .i64 nw1, .int .i64 0], .int .i64 0])) eS.symm) eF.symm)
        clear eS eF
        go_wp2
        obtain ⟨fin_a, fin_b⟩ := HFIN.out
        have hE := HE.out
        clear HFIN HE
        exact bodyPost_ret (xr_results rfl rfl fin_a) rfl ⟨hE, fin_b⟩
    | false =>
      cases rt with
      | true =>
        obtain ⟨W8, hW8⟩ : ∃ W8, W8 = ((W7.setCell ⟨w.heap.size, 8, none⟩ (.int .i64 0)).setCell ⟨w.heap.size, 5, none⟩ (.int .i64 1)) := ⟨_, rfl⟩
        have k8 : Only [w.heap.size] W7 W8 := by rw [hW8]; exact (only_put (put_only _ _ 8 _) 5 _)
        have pz8 := pz7.only k8 (by simp; omega)
        have b8 := b7.trans (k8.below b7.size (by simp))
        have HFIN := Lib.hid (And.intro (put14_cel pz8 (.int .i64 K) (.int .i64 H) (.int .i64 W) (.int .i64 T) (.int .i64 R) (.int .i64 1) (.slice A3 n3 c3) (.int .i64 AC) (.int .i64 0) (.int .i64 FR) (.slice A2 n2 c2) (.int .i64 nw1) (.int .i64 nw1) (.int .i64 0)) (b8.trans ((put14_only W8 (w.heap.size + 1 + 1) (.int .i64 K) (.int .i64 H) (.int .i64 W) (.int .i64 T) (.int .i64 R) (.int .i64 1) (.slice A3 n3 c3) (.int .i64 AC) (.int .i64 0) (.int .i64 FR) (.slice A2 n2 c2) (.int .i64 nw1) (.int .i64 nw1) (.int .i64 0)).below b8.size (by simp; omega))))
        unfold put14 at HFIN
        rw [hW8] at HFIN
        clear pr7 pz7 pq7 b7 k8 pz8 b8 hW8
        have eS : sTr = 1 := by rw [HsTr.out]; simp
        have eF : fLr = 0 := by rw [HfLr.out]; simp
        have HE := Lib.hid (congr (congrArg (fun s f => Ending.returned (.tuple #[.agg #[.int .i64 K, .int .i64 H, .int .i64 W, .int .i64 T, .int .i64 R, .int .i64 s, .slice A3 n3 c3, .int .i64 AC, .int .i64 f, .int .i64 FR, .slice A2 n2 c2, .int .i64 nw1, .int .i64 nw1, .int .i64 0], .int .i64 0])) eS.symm) eF.symm)
        clear eS eF
        go_wp2
        obtain ⟨fin_a, fin_b⟩ := HFIN.out
        have hE := HE.out
        clear HFIN HE
        exact bodyPost_ret (xr_results rfl rfl fin_a) rfl ⟨hE, fin_b⟩
      | false =>
        obtain ⟨W8, hW8⟩ : ∃ W8, W8 = (W7.setCell ⟨w.heap.size, 5, none⟩ (.int .i64 1)) := ⟨_, rfl⟩
        have k8 : Only [w.heap.size] W7 W8 := by rw [hW8]; exact (put_only _ _ 5 _)
        have pz8 := pz7.only k8 (by simp; omega)
        have b8 := b7.trans (k8.below b7.size (by simp))
        have HFIN := Lib.hid (And.intro (put14_cel pz8 (.int .i64 K) (.int .i64 H) (.int .i64 W) (.int .i64 T) (.int .i64 R) (.int .i64 1) (.slice A3 n3 c3) (.int .i64 AC) (.int .i64 FL) (.int .i64 FR) (.slice A2 n2 c2) (.int .i64 nw1) (.int .i64 nw1) (.int .i64 0)) (b8.trans ((put14_only W8 (w.heap.size + 1 + 1) (.int .i64 K) (.int .i64 H) (.int .i64 W) (.int .i64 T) (.int .i64 R) (.int .i64 1) (.slice A3 n3 c3) (.int .i64 AC) (.int .i64 FL) (.int .i64 FR) (.slice A2 n2 c2) (.int .i64 nw1) (.int .i64 nw1) (.int .i64 0)).below b8.size (by simp; omega))))
        unfold put14 at HFIN
        rw [hW8] at HFIN
        clear pr7 pz7 pq7 b7 k8 pz8 b8 hW8
        have eS : sTr = 1 := by rw [HsTr.out]; simp
        have eF : fLr = FL := by rw [HfLr.out]; simp
        have HE := Lib.hid (congr (congrArg (fun s f => Ending.returned (.tuple #[.agg #[.int .i64 K, .int .i64 H, .int .i64 W, .int .i64 T, .int .i64 R, .int .i64 s, .slice A3 n3 c3, .int .i64 AC, .int .i64 f, .int .i64 FR, .slice A2 n2 c2, .int .i64 nw1, .int .i64 nw1, .int .i64 0], .int .i64 0])) eS.symm) eF.symm)
        clear eS eF
        go_wp2
        obtain ⟨fin_a, fin_b⟩ := HFIN.out
        have hE := HE.out
        clear HFIN HE
        exact bodyPost_ret (xr_results rfl rfl fin_a) rfl ⟨hE, fin_b⟩
  have hne12 : ¬ (st = 1 ∨ st = 2) := fun h => h.elim h1 h2
  have t5 : (st == 1) = false := by simpa using h1
  have t6 : (st == 2) = false := by simpa using h2
  clear h1 h2
  cases rt with
  | true =>
    obtain ⟨W8, hW8⟩ : ∃ W8, W8 = (W7.setCell ⟨w.heap.size, 8, none⟩ (.int .i64 0)) := ⟨_, rfl⟩
    have k8 : Only [w.heap.size] W7 W8 := by rw [hW8]; exact (put_only _ _ 8 _)
    have pz8 := pz7.only k8 (by simp; omega)
    have b8 := b7.trans (k8.below b7.size (by simp))
    have HFIN := Lib.hid (And.intro (put14_cel pz8 (.int .i64 K) (.int .i64 H) (.int .i64 W) (.int .i64 T) (.int .i64 R) (.int .i64 st) (.slice A3 n3 c3) (.int .i64 AC) (.int .i64 0) (.int .i64 FR) (.slice A2 n2 c2) (.int .i64 nw1) (.int .i64 nw1) (.int .i64 0)) (b8.trans ((put14_only W8 (w.heap.size + 1 + 1) (.int .i64 K) (.int .i64 H) (.int .i64 W) (.int .i64 T) (.int .i64 R) (.int .i64 st) (.slice A3 n3 c3) (.int .i64 AC) (.int .i64 0) (.int .i64 FR) (.slice A2 n2 c2) (.int .i64 nw1) (.int .i64 nw1) (.int .i64 0)).below b8.size (by simp; omega))))
    unfold put14 at HFIN
    rw [hW8] at HFIN
    clear pr7 pz7 pq7 b7 k8 pz8 b8 hW8
    have eS : sTr = st := by rw [HsTr.out]; exact if_neg hne12
    have eF : fLr = 0 := by rw [HfLr.out]; simp
    have HE := Lib.hid (congr (congrArg (fun s f => Ending.returned (.tuple #[.agg #[.int .i64 K, .int .i64 H, .int .i64 W, .int .i64 T, .int .i64 R, .int .i64 s, .slice A3 n3 c3, .int .i64 AC, .int .i64 f, .int .i64 FR, .slice A2 n2 c2, .int .i64 nw1, .int .i64 nw1, .int .i64 0], .int .i64 0])) eS.symm) eF.symm)
    clear eS eF hne12
    go_wp2
    obtain ⟨fin_a, fin_b⟩ := HFIN.out
    have hE := HE.out
    clear HFIN HE
    exact bodyPost_ret (xr_results rfl rfl fin_a) rfl ⟨hE, fin_b⟩
  | false =>
    have HFIN := Lib.hid (And.intro (put14_cel pz7 (.int .i64 K) (.int .i64 H) (.int .i64 W) (.int .i64 T) (.int .i64 R) (.int .i64 st) (.slice A3 n3 c3) (.int .i64 AC) (.int .i64 FL) (.int .i64 FR) (.slice A2 n2 c2) (.int .i64 nw1) (.int .i64 nw1) (.int .i64 0)) (b7.trans ((put14_only W7 (w.heap.size + 1 + 1) (.int .i64 K) (.int .i64 H) (.int .i64 W) (.int .i64 T) (.int .i64 R) (.int .i64 st) (.slice A3 n3 c3) (.int .i64 AC) (.int .i64 FL) (.int .i64 FR) (.slice A2 n2 c2) (.int .i64 nw1) (.int .i64 nw1) (.int .i64 0)).below b7.size (by simp; omega))))
    unfold put14 at HFIN
    clear pr7 pz7 pq7 b7
    have eS : sTr = st := by rw [HsTr.out]; exact if_neg hne12
    have eF : fLr = FL := by rw [HfLr.out]; simp
    have HE := Lib.hid (congr (congrArg (fun s f => Ending.returned (.tuple #[.agg #[.int .i64 K, .int .i64 H, .int .i64 W, .int .i64 T, .int .i64 R, .int .i64 s, .slice A3 n3 c3, .int .i64 AC, .int .i64 f, .int .i64 FR, .slice A2 n2 c2, .int .i64 nw1, .int .i64 nw1, .int .i64 0], .int .i64 0])) eS.symm) eF.symm)
    clear eS eF hne12
    go_wp2
    obtain ⟨fin_a, fin_b⟩ := HFIN.out
    have hE := HE.out
    clear HFIN HE
    exact bodyPost_ret (xr_results rfl rfl fin_a) rfl ⟨hE, fin_b⟩

end Go.Proofs.Ytdpjjhbfhlmolaa.Fop

/-
  The reference of layer 17: Report ahead of all that was sent.
-/
namespace Go.Proofs.Ytdpjjhbfhlmolaa.Fop
open Go.RowKit
open Pac (bel_new Cel.later)
open Clc (Cw zvalid_any)

set_option maxRecDepth 100000 in
set_option maxHeartbeats 16000000 in
theorem xrep_far (m ch : Int) (wt rt : Bool) (bp nx : Int) (K H W T R st : Int) (A : Option Addr) (n c : Nat) (ac fl fr : Int) (A2 : Option Addr) (n2 c2 : Nat) (nw tm rp : Int) (w : World) {nw1 : Int} (hN : adn m nw = nw1) (hc : ch = H) {D : Nat} (hV : Cw.ok ⟨ch, false, wt, rt, bp, nx⟩ = true) (n0 : 0 ≤ nx) (n1 : nx ≤ 255) (a0 : 0 ≤ ac) (_a1 : ac ≤ 1099511627776) (hD : (nx - ac) % 256 = (D : Int)) (hf : fr < (D : Int)) :
    Calls Try.prog 18 #[.agg #[.int .i64 K, .int .i64 H, .int .i64 W, .int .i64 T, .int .i64 R, .int .i64 st, .slice A n c, .int .i64 ac, .int .i64 fl, .int .i64 fr, .slice A2 n2 c2, .int .i64 nw, .int .i64 tm, .int .i64 rp], .agg #[.int .i64 ch, .bool false, .bool wt, .bool rt, .int .i64 bp, .int .i64 nx], .int .i64 m] w fun e w' => (e = .returned (.tuple #[.agg #[.int .i64 K, .int .i64 H, .int .i64 W, .int .i64 T, .int .i64 R, .int .i64 4, .slice A n c, .int .i64 ac, .int .i64 fl, .int .i64 fr, .slice A2 n2 c2, .int .i64 nw1, .int .i64 tm, .int .i64 rp], .int .i64 12])) ∧ Below w.heap.size w w' := by
  obtain ⟨N1, hN1⟩ : ∃ N1, N1 = nx + 256 := ⟨_, rfl⟩
  obtain ⟨M1, hM1⟩ : ∃ M1, M1 = ac % 256 := ⟨_, rfl⟩
  obtain ⟨X1, hX1⟩ : ∃ X1, X1 = N1 - M1 := ⟨_, rfl⟩
  have v0 : 0 ≤ M1 ∧ M1 ≤ 255 := by omega
  have v1 : nx + 256 = N1 := hN1.symm
  have v2 : wrap64 N1 = N1 := wr64 (by omega) (by omega)
  have v3 : ac.tmod 256 = M1 := by rw [Int.tmod_eq_emod_of_nonneg a0]; exact hM1.symm
  have v4 : ac % 256 = M1 := hM1.symm
  have v5 : N1 - M1 = X1 := hX1.symm
  have v6 : wrap64 X1 = X1 := wr64 (by omega) (by omega)
  have v7 : X1 % 256 = (D : Int) := by rw [← hD]; omega
  have v8 : X1.tmod 256 = (D : Int) := by rw [Int.tmod_eq_emod_of_nonneg (by omega)]; exact v7
  have t1 : (ch != H) = false := by simpa using hc
  clear hc
  have HV := Lib.hid (And.intro v1 (And.intro v2 (And.intro v3 (And.intro v4 (And.intro v5 (And.intro v6 (And.intro v7 v8)))))))
  clear hN1 hM1 hX1 v0 v1 v2 v3 v4 v5 v6 v7 v8
  have t2 : decide (fr < (D : Int)) = true := by simpa using hf
  clear hD hf a0 n0 n1
  obtain ⟨w3, hw3⟩ : ∃ w3, w3 = ((w.alloc (.cells #[.int .i64 K, .int .i64 H, .int .i64 W, .int .i64 T, .int .i64 R, .int .i64 st, .slice A n c, .int .i64 ac, .int .i64 fl, .int .i64 fr, .slice A2 n2 c2, .int .i64 nw, .int .i64 tm, .int .i64 rp] 31)).alloc (.cells #[.int .i64 ch, .bool false, .bool wt, .bool rt, .int .i64 bp, .int .i64 nx] 35)).alloc (.cells #[.int .i64 0, .int .i64 0, .int .i64 0, .int .i64 0, .int .i64 0, .int .i64 0, .slice none 0 0, .int .i64 0, .int .i64 0, .int .i64 0, .slice none 0 0, .int .i64 0, .int .i64 0, .int .i64 0] 31) := ⟨_, rfl⟩
  have b3 : Below w.heap.size w w3 := by rw [hw3]; exact ((bel_new _ _).alloc (by simp) _).alloc (by simp; omega) _
  have pr3 : Cel w3 w.heap.size 31 #[.int .i64 K, .int .i64 H, .int .i64 W, .int .i64 T, .int .i64 R, .int .i64 st, .slice A n c, .int .i64 ac, .int .i64 fl, .int .i64 fr, .slice A2 n2 c2, .int .i64 nw, .int .i64 tm, .int .i64 rp] := by rw [hw3]; exact Cel.later (Cel.later (Cel_at rfl) (bel_new _ _)) (bel_new _ _)
  have pq3 : Cel w3 (w.heap.size + 1) 35 #[.int .i64 ch, .bool false, .bool wt, .bool rt, .int .i64 bp, .int .i64 nx] := by rw [hw3]; exact Cel.later (Cel_at (by simp)) (bel_new _ _)
  have pz3 : Cel w3 (w.heap.size + 1 + 1) 31 #[.int .i64 0, .int .i64 0, .int .i64 0, .int .i64 0, .int .i64 0, .int .i64 0, .slice none 0 0, .int .i64 0, .int .i64 0, .int .i64 0, .slice none 0 0, .int .i64 0, .int .i64 0, .int .i64 0] := by rw [hw3]; exact Cel_at (by simp)
  have xa := xat_any m K H W T R st A n c ac fl fr A2 n2 c2 nw tm rp w3 hN
  have HP := Lib.hid (And.intro pr3 (And.intro pz3 pq3))
  have HB := Lib.hid b3
  clear pr3 pz3 pq3 b3 hN
  go_enter Try.func18, Try.ntmps18
  go_wp2_with fail
  rw [← hw3]
  clear hw3
  refine xa.mono ?_
  rintro e w4 ⟨rfl, k4⟩
  clear xa
  have pr4 := Cel.later HP.out.1 k4
  have pz4 := Cel.later HP.out.2.1 k4
  have pq4 := Cel.later HP.out.2.2 k4
  have b4 := HB.out.trans (k4.mono HB.out.size)
  obtain ⟨W5, hW5⟩ : ∃ W5, W5 = put14 w4 w.heap.size (.int .i64 K) (.int .i64 H) (.int .i64 W) (.int .i64 T) (.int .i64 R) (.int .i64 st) (.slice A n c) (.int .i64 ac) (.int .i64 fl) (.int .i64 fr) (.slice A2 n2 c2) (.int .i64 nw1) (.int .i64 tm) (.int .i64 rp) := ⟨_, rfl⟩
  have k5 : Only [w.heap.size] w4 W5 := by rw [hW5]; exact put14_only _ _ _ _ _ _ _ _ _ _ _ _ _ _ _ _
  have pr5 : Cel W5 w.heap.size 31 #[.int .i64 K, .int .i64 H, .int .i64 W, .int .i64 T, .int .i64 R, .int .i64 st, .slice A n c, .int .i64 ac, .int .i64 fl, .int .i64 fr, .slice A2 n2 c2, .int .i64 nw1, .int .i64 tm, .int .i64 rp] := by rw [hW5]; exact put14_cel pr4 _ _ _ _ _ _ _ _ _ _ _ _ _ _
  have pz5 := pz4.only k5 (by simp; omega)
  have pq5 := pq4.only k5 (by simp)
  have b5 := b4.trans (k5.below b4.size (by simp))
  unfold put14 at hW5
  have a0 := pr4.cell 0
  have a1 := pr4.cell 1
  have a2 := pr4.cell 2
  have a3 := pr4.cell 3
  have a4 := pr4.cell 4
  have a5 := pr4.cell 5
  have a6 := pr4.cell 6
  have a7 := pr4.cell 7
  have a8 := pr4.cell 8
  have a9 := pr4.cell 9
  have a10 := pr4.cell 10
  have a11 := pr4.cell 11
  have a12 := pr4.cell 12
  have a13 := pr4.cell 13
  simp at a0 a1 a2 a3 a4 a5 a6 a7 a8 a9 a10 a11 a12 a13
  have ya0 := pr4.free 0
  have ya1 := pr4.free 1
  have ya2 := pr4.free 2
  have ya3 := pr4.free 3
  have ya4 := pr4.free 4
  have ya5 := pr4.free 5
  have ya6 := pr4.free 6
  have ya7 := pr4.free 7
  have ya8 := pr4.free 8
  have ya9 := pr4.free 9
  have ya10 := pr4.free 10
  have ya11 := pr4.free 11
  have ya12 := pr4.free 12
  have ya13 := pr4.free 13
  clear k4 k5 pz4 pq4 b4 pr4
  go_upto_region 2 with fail
  rw [← hW5]
  clear hW5 a0 ya0 a1 ya1 a2 ya2 a3 ya3 a4 ya4 a5 ya5 a6 ya6 a7 ya7 a8 ya8 a9 ya9 a10 ya10 a11 ya11 a12 ya12 a13 ya13
  have q0 := pq5.cell 0
  have q1 := pq5.cell 1
  have q2 := pq5.cell 2
  have q3 := pq5.cell 3
  have q4 := pq5.cell 4
  have q5 := pq5.cell 5
  simp at q0 q1 q2 q3 q4 q5
  go_wp2_with fail
  refine (zvalid_any ch false wt rt bp nx W5).mono ?_
  rintro e w6 ⟨rfl, k6⟩
  rw [hV]
  have pr6 := Cel.later pr5 k6
  have pz6 := Cel.later pz5 k6
  have pq6 := Cel.later pq5 k6
  have b6 := b5.trans (k6.mono b5.size)
  clear k6 pr5 pz5 pq5 b5 hV q0 q1 q2 q3 q4 q5
  have r0 := pr6.cell 0
  have r1 := pr6.cell 1
  have r2 := pr6.cell 2
  have r3 := pr6.cell 3
  have r4 := pr6.cell 4
  have r5 := pr6.cell 5
  have r6 := pr6.cell 6
  have r7 := pr6.cell 7
  have r8 := pr6.cell 8
  have r9 := pr6.cell 9
  have r10 := pr6.cell 10
  have r11 := pr6.cell 11
  have r12 := pr6.cell 12
  have r13 := pr6.cell 13
  simp at r0 r1 r2 r3 r4 r5 r6 r7 r8 r9 r10 r11 r12 r13
  have yr0 := pr6.free 0
  have yr1 := pr6.free 1
  have yr2 := pr6.free 2
  have yr3 := pr6.free 3
  have yr4 := pr6.free 4
  have yr5 := pr6.free 5
  have yr6 := pr6.free 6
  have yr7 := pr6.free 7
  have yr8 := pr6.free 8
  have yr9 := pr6.free 9
  have yr10 := pr6.free 10
  have yr11 := pr6.free 11
  have yr12 := pr6.free 12
  have yr13 := pr6.free 13
  have z0 := pz6.cell 0
  have z1 := pz6.cell 1
  have z2 := pz6.cell 2
  have z3 := pz6.cell 3
  have z4 := pz6.cell 4
  have z5 := pz6.cell 5
  have z6 := pz6.cell 6
  have z7 := pz6.cell 7
  have z8 := pz6.cell 8
  have z9 := pz6.cell 9
  have z10 := pz6.cell 10
  have z11 := pz6.cell 11
  have z12 := pz6.cell 12
  have z13 := pz6.cell 13
  simp at z0 z1 z2 z3 z4 z5 z6 z7 z8 z9 z10 z11 z12 z13
  have yz0 := pz6.free 0
  have yz1 := pz6.free 1
  have yz2 := pz6.free 2
  have yz3 := pz6.free 3
  have yz4 := pz6.free 4
  have yz5 := pz6.free 5
  have yz6 := pz6.free 6
  have yz7 := pz6.free 7
  have yz8 := pz6.free 8
  have yz9 := pz6.free 9
  have yz10 := pz6.free 10
  have yz11 := pz6.free 11
  have yz12 := pz6.free 12
  have yz13 := pz6.free 13
  have q0 := pq6.cell 0
  have q1 := pq6.cell 1
  have q2 := pq6.cell 2
  have q3 := pq6.cell 3
  have q4 := pq6.cell 4
  have q5 := pq6.cell 5
  simp at q0 q1 q2 q3 q4 q5
  go_upto_region 7 with fail
  obtain ⟨v1, v2, v3, v4, v5, v6, v7, v8⟩ := HV.out
  go_upto_region 8 with fail
  clear v1 v2 v3 v4 v5 v6 v7 v8
  obtain ⟨W7, hW7⟩ : ∃ W7, W7 = w6.setCell ⟨w.heap.size, 5, none⟩ (.int .i64 4) := ⟨_, rfl⟩
  have k7 : Only [w.heap.size] w6 W7 := by rw [hW7]; exact put_only _ _ 5 _
  have pz7 := pz6.only k7 (by simp; omega)
  have b7 := b6.trans (k7.below b6.size (by simp))
  have HFIN := Lib.hid (And.intro (put14_cel pz7 (.int .i64 K) (.int .i64 H) (.int .i64 W) (.int .i64 T) (.int .i64 R) (.int .i64 4) (.slice A n c) (.int .i64 ac) (.int .i64 fl) (.int .i64 fr) (.slice A2 n2 c2) (.int .i64 nw1) (.int .i64 tm) (.int .i64 rp)) (b7.trans ((put14_only W7 (w.heap.size + 1 + 1) (.int .i64 K) (.int .i64 H) (.int .i64 W) (.int .i64 T) (.int .i64 R) (.int .i64 4) (.slice A n c) (.int .i64 ac) (.int .i64 fl) (.int .i64 fr) (.slice A2 n2 c2) (.int .i64 nw1) (.int .i64 tm) (.int .i64 rp)).below b7.size (by simp; omega))))
  unfold put14 at HFIN
  rw [hW7] at HFIN
  clear pr6 pz6 pq6 b6 k7 pz7 b7 hW7
  go_wp2
  obtain ⟨fin_a, fin_b⟩ := HFIN.out
  clear HFIN
  exact bodyPost_ret (xr_results rfl rfl fin_a) rfl ⟨rfl, fin_b⟩

end Go.Proofs.Ytdpjjhbfhlmolaa.Fop

/-
  The reference of layer 17: Unlock.
-/
namespace Go.Proofs.Ytdpjjhbfhlmolaa.Fop
open Go.RowKit Go.Proofs.Ytdpjjhbfhlmolaa.Pac
open Tcf (Fr)

set_option maxHeartbeats 1000000 in
theorem yun17_any (cr ch : Int) (w : World) :
    Calls Try.prog 28 #[.int .i64 cr, .int .i64 ch] w fun e w' => ∃ A c, e = .returned (.agg #[.bool true, .bool true, .int .i64 cr, .int .i64 ch, .int .i64 0, .slice A 1 c]) ∧ Dq w' [0#8] A c ∧ Below w.heap.size w w' := by
  have hR0 := Cel.new w 43 #[.bool true, .bool true, .int .i64 cr, .int .i64 ch, .int .i64 0, .slice (some ⟨w.heap.size + 1, 0, none⟩) 1 1]
  have b0 := bel_new w (.cells #[.bool true, .bool true, .int .i64 cr, .int .i64 ch, .int .i64 0, .slice (some ⟨w.heap.size + 1, 0, none⟩) 1 1] 43)
  have s0 : (w.alloc (.cells #[.bool true, .bool true, .int .i64 cr, .int .i64 ch, .int .i64 0, .slice (some ⟨w.heap.size + 1, 0, none⟩) 1 1] 43)).heap.size = w.heap.size + 1 := by simp
  have d0 : ∀ W0 : World, W0.heap.size = w.heap.size + 1 → Dq (W0.alloc (.cells #[.int .u8 0] 5)) [0#8] (some ⟨w.heap.size + 1, 0, none⟩) 1 := fun W0 h => by
    rw [← h]
    exact Dq.own (base := W0.heap.size) (n := 1) (Ow_new _ _ _ [0#8] 1 _ rfl rfl (Nat.le_refl _) (by decide) _ rfl)
  have d1 := d0 _ s0
  have b1 := b0.alloc b0.size (.cells #[.int .u8 0] 5)
  have hR1 := Cel.later hR0 (bel_new (w.alloc (.cells #[.bool true, .bool true, .int .i64 cr, .int .i64 ch, .int .i64 0, .slice (some ⟨w.heap.size + 1, 0, none⟩) 1 1] 43)) (.cells #[.int .u8 0] 5))
  clear hR0 b0 s0 d0
  go_enter Try.func28, Try.ntmps28
  go_wp2
  exact bodyPost_ret (Tcf.yun_results rfl hR1) rfl ⟨_, _, rfl, d1, b1⟩

set_option maxHeartbeats 1000000 in
theorem ysn17_any (cr ch : Int) (z : Byte) (w : World) :
    Calls Try.prog 29 #[.int .i64 cr, .int .i64 ch, .int .i64 (z.toNat : Int)] w fun e w' => ∃ A c, e = .returned (.agg #[.bool true, .bool true, .int .i64 cr, .int .i64 ch, .int .i64 0, .slice A 3 c]) ∧ Dq w' [130#8, 0#8, z] A c ∧ Below w.heap.size w w' := by
  have hz := z.isLt
  have hz2 : (0 : Int) ≤ (z.toNat : Int) := by omega
  have hz3 : (z.toNat : Int) ≤ 255 := by omega
  have hz4 : IntKind.u8.wrap (z.toNat : Int) = (z.toNat : Int) := by rw [IntKind.wrap_u8]; omega
  obtain ⟨Z, hZ⟩ : ∃ Z : Int, Z = (z.toNat : Int) := ⟨_, rfl⟩
  rw [← hZ] at hz2 hz3 hz4 ⊢
  have g1 : decide (Z < 0) = false := by simp; omega
  have g2 : decide (255 < Z) = false := by simp; omega
  have hR0 := Cel.new w 43 #[.bool false, .bool false, .int .i64 0, .int .i64 0, .int .i64 0, .slice none 0 0]
  have b0 := bel_new w (.cells #[.bool false, .bool false, .int .i64 0, .int .i64 0, .int .i64 0, .slice none 0 0] 43)
  have hun := yun17_any cr ch (w.alloc (.cells #[.bool false, .bool false, .int .i64 0, .int .i64 0, .int .i64 0, .slice none 0 0] 43))
  have HZ := Lib.hid hZ
  clear hZ hz
  go_enter Try.func29, Try.ntmps29
  go_wp2_with fail
  refine hun.mono ?_
  rintro e w1 ⟨A1, c1, rfl, _, h1⟩
  have hR1 := Cel.later hR0 h1
  have b1 := b0.trans (h1.mono b0.size)
  obtain ⟨Wp, hWp⟩ : ∃ Wp, Wp = putAll w1 w.heap.size true true cr ch 0 (.slice (some ⟨w1.heap.size + 1, 0, none⟩) 3 3) := ⟨_, rfl⟩
  have hRp : Cel Wp w.heap.size 43 #[.bool true, .bool true, .int .i64 cr, .int .i64 ch, .int .i64 0, .slice (some ⟨w1.heap.size + 1, 0, none⟩) 3 3] := by rw [hWp]; exact putAll_cel hR1 _ _ _ _ _ _
  have sp : Wp.heap.size = w1.heap.size := by rw [hWp]; simp [putAll, World.setCell]
  have bp : Below w.heap.size w Wp := by rw [hWp]; exact putAll_below b1 (Nat.le_refl _) _ _ _ _ _ _
  have k2 := bel_new Wp (.cells #[.bool true, .bool true, .int .i64 cr, .int .i64 ch, .int .i64 0, .slice (some ⟨w1.heap.size + 1, 0, none⟩) 3 3] 43)
  have s2 : (Wp.alloc (.cells #[.bool true, .bool true, .int .i64 cr, .int .i64 ch, .int .i64 0, .slice (some ⟨w1.heap.size + 1, 0, none⟩) 3 3] 43)).heap.size = w1.heap.size + 1 := by simp [sp]
  have d0 : ∀ W0 : World, W0.heap.size = w1.heap.size + 1 → Dq (W0.alloc (.cells #[.int .u8 130, .int .u8 0, .int .u8 Z] 5)) [130#8, 0#8, z] (some ⟨w1.heap.size + 1, 0, none⟩) 3 := fun W0 h => by
    rw [← h]
    exact Dq.own (base := W0.heap.size) (n := 3) (Ow_new _ _ _ [130#8, 0#8, z] 3 _ rfl (by rw [HZ.out]; rfl) (Nat.le_refl _) (by decide) _ rfl)
  have d3 := d0 _ s2
  have k3 := k2.alloc k2.size (.cells #[.int .u8 130, .int .u8 0, .int .u8 Z] 5)
  have hR3 := Cel.later hRp k3
  have b3 := bp.trans (k3.mono bp.size)
  have hlt := hR1.lt
  have e0 := hR1.cell 0
  have e1 := hR1.cell 1
  have e2 := hR1.cell 2
  have e3 := hR1.cell 3
  have e4 := hR1.cell 4
  have e5 := hR1.cell 5
  simp at e0 e1 e2 e3 e4 e5
  have f0 := hR1.free 0
  have f1 := hR1.free 1
  have f2 := hR1.free 2
  have f3 := hR1.free 3
  have f4 := hR1.free 4
  have f5 := hR1.free 5
  rw [hWp] at d3 hR3 b3
  clear hun h1 hR0 b0 s2 k2 k3 d0 hRp sp bp hWp
  go_wp2
  exact bodyPost_ret (Tcf.ysn_results rfl hR3) rfl ⟨_, _, rfl, d3, b3⟩
theorem xu_results {tmps : Array Value} {W : World} {g : Nat} {u0 u1 u2 u3 u4 u5 u6 u7 u8 u9 u10 u11 u12 u13 : Value} (h2 : tmps.getD 4 undef = .pointer (some ⟨g, 0, none⟩))
    (hC : Cel W g 31 #[u0, u1, u2, u3, u4, u5, u6, u7, u8, u9, u10, u11, u12, u13]) :
    (results Try.f20 tmps).run Try.prog W = .ok (.agg #[u0, u1, u2, u3, u4, u5, u6, u7, u8, u9, u10, u11, u12, u13]) W := by
  have c0 := hC.cell 0
  have c1 := hC.cell 1
  have c2 := hC.cell 2
  have c3 := hC.cell 3
  have c4 := hC.cell 4
  have c5 := hC.cell 5
  have c6 := hC.cell 6
  have c7 := hC.cell 7
  have c8 := hC.cell 8
  have c9 := hC.cell 9
  have c10 := hC.cell 10
  have c11 := hC.cell 11
  have c12 := hC.cell 12
  have c13 := hC.cell 13
  simp at c0 c1 c2 c3 c4 c5 c6 c7 c8 c9 c10 c11 c12 c13
  simp only [Array.getD_eq_getD_getElem?] at h2
  simp [results, Try.results20, go_sem, h2, c0, c1, c2, c3, c4, c5, c6, c7, c8, c9, c10, c11, c12, c13]
set_option maxRecDepth 100000 in
set_option maxHeartbeats 16000000 in
theorem xunlock17_any (m : Int) (K H W T R st : Int) (A : Option Addr) (n c : Nat) (ac fl fr : Int) (A2 : Option Addr) (n2 c2 : Nat) (nw tm rp : Int) (w : World) {nw1 : Int} (hN : adn m nw = nw1) (a0 : 0 ≤ ac) :
    Calls Try.prog 20 #[.agg #[.int .i64 K, .int .i64 H, .int .i64 W, .int .i64 T, .int .i64 R, .int .i64 st, .slice A n c, .int .i64 ac, .int .i64 fl, .int .i64 fr, .slice A2 n2 c2, .int .i64 nw, .int .i64 tm, .int .i64 rp], .int .i64 m] w fun e w' => (∃ F, e = .returned (.agg #[.int .i64 K, .int .i64 H, .int .i64 W, .int .i64 T, .int .i64 R, .int .i64 1, .slice A n c, .int .i64 ac, .int .i64 0, .int .i64 0, .slice (some ⟨F, 0, none⟩) 2 2, .int .i64 nw1, .int .i64 nw1, .int .i64 0]) ∧ CT w' K H ac 2 (some ⟨F, 0, none⟩) 2 2) ∧ Below w.heap.size w w' := by
  obtain ⟨Z, hZ⟩ : ∃ Z : Int, Z = ((BitVec.ofNat 8 (ac % 256).toNat).toNat : Int) := ⟨_, rfl⟩
  have hZ2 : ac % 256 = Z := by rw [hZ]; simp; omega
  have hZ3 : ac.tmod 256 = Z := by rw [Int.tmod_eq_emod_of_nonneg a0]; exact hZ2
  have xs := fun W => ysn17_any K H (BitVec.ofNat 8 (ac % 256).toNat) W
  simp only [← hZ] at xs
  have HZ := Lib.hid (And.intro hZ2 hZ3)
  clear hZ hZ2 hZ3 a0
  obtain ⟨w3, hw3⟩ : ∃ w3, w3 = (w.alloc (.cells #[.int .i64 K, .int .i64 H, .int .i64 W, .int .i64 T, .int .i64 R, .int .i64 st, .slice A n c, .int .i64 ac, .int .i64 fl, .int .i64 fr, .slice A2 n2 c2, .int .i64 nw, .int .i64 tm, .int .i64 rp] 31)).alloc (.cells #[.int .i64 0, .int .i64 0, .int .i64 0, .int .i64 0, .int .i64 0, .int .i64 0, .slice none 0 0, .int .i64 0, .int .i64 0, .int .i64 0, .slice none 0 0, .int .i64 0, .int .i64 0, .int .i64 0] 31) := ⟨_, rfl⟩
  have b3 : Below w.heap.size w w3 := by rw [hw3]; exact (bel_new _ _).alloc (by simp) _
  have pr3 : Cel w3 w.heap.size 31 #[.int .i64 K, .int .i64 H, .int .i64 W, .int .i64 T, .int .i64 R, .int .i64 st, .slice A n c, .int .i64 ac, .int .i64 fl, .int .i64 fr, .slice A2 n2 c2, .int .i64 nw, .int .i64 tm, .int .i64 rp] := by rw [hw3]; exact Cel.later (Cel_at rfl) (bel_new _ _)
  have pz3 : Cel w3 (w.heap.size + 1) 31 #[.int .i64 0, .int .i64 0, .int .i64 0, .int .i64 0, .int .i64 0, .int .i64 0, .slice none 0 0, .int .i64 0, .int .i64 0, .int .i64 0, .slice none 0 0, .int .i64 0, .int .i64 0, .int .i64 0] := by rw [hw3]; exact Cel_at (by simp)
  have xa := xat_any m K H W T R st A n c ac fl fr A2 n2 c2 nw tm rp w3 hN
  have HP := Lib.hid (And.intro pr3 pz3)
  have HB := Lib.hid b3
  clear pr3 pz3 b3 hN
  go_enter Try.func20, Try.ntmps20
  go_wp2_with fail
  rw [← hw3]
  clear hw3
  refine xa.mono ?_
  rintro e w4 ⟨rfl, k4⟩
  clear xa
  have pr4 := Cel.later HP.out.1 k4
  have pz4 := Cel.later HP.out.2 k4
  have b4 := HB.out.trans (k4.mono HB.out.size)
  obtain ⟨W5, hW5⟩ : ∃ W5, W5 = put14 w4 w.heap.size (.int .i64 K) (.int .i64 H) (.int .i64 W) (.int .i64 T) (.int .i64 R) (.int .i64 st) (.slice A n c) (.int .i64 ac) (.int .i64 fl) (.int .i64 fr) (.slice A2 n2 c2) (.int .i64 nw1) (.int .i64 tm) (.int .i64 rp) := ⟨_, rfl⟩
  have k5 : Only [w.heap.size] w4 W5 := by rw [hW5]; exact put14_only _ _ _ _ _ _ _ _ _ _ _ _ _ _ _ _
  have pr5 : Cel W5 w.heap.size 31 #[.int .i64 K, .int .i64 H, .int .i64 W, .int .i64 T, .int .i64 R, .int .i64 st, .slice A n c, .int .i64 ac, .int .i64 fl, .int .i64 fr, .slice A2 n2 c2, .int .i64 nw1, .int .i64 tm, .int .i64 rp] := by rw [hW5]; exact put14_cel pr4 _ _ _ _ _ _ _ _ _ _ _ _ _ _
  have pz5 := pz4.only k5 (by simp)
  have b5 := b4.trans (k5.below b4.size (by simp))
  unfold put14 at hW5
  have a0 := pr4.cell 0
  have a1 := pr4.cell 1
  have a2 := pr4.cell 2
  have a3 := pr4.cell 3
  have a4 := pr4.cell 4
  have a5 := pr4.cell 5
  have a6 := pr4.cell 6
  have a7 := pr4.cell 7
  have a8 := pr4.cell 8
  have a9 := pr4.cell 9
  have a10 := pr4.cell 10
  have a11 := pr4.cell 11
  have a12 := pr4.cell 12
  have a13 := pr4.cell 13
  simp at a0 a1 a2 a3 a4 a5 a6 a7 a8 a9 a10 a11 a12 a13
  have ya0 := pr4.free 0
  have ya1 := pr4.free 1
  have ya2 := pr4.free 2
  have ya3 := pr4.free 3
  have ya4 := pr4.free 4
  have ya5 := pr4.free 5
  have ya6 := pr4.free 6
  have ya7 := pr4.free 7
  have ya8 := pr4.free 8
  have ya9 := pr4.free 9
  have ya10 := pr4.free 10
  have ya11 := pr4.free 11
  have ya12 := pr4.free 12
  have ya13 := pr4.free 13
  clear k4 k5 pz4 b4 pr4
  go_upto_region 2 with fail
  rw [← hW5]
  clear hW5 a0 ya0 a1 ya1 a2 ya2 a3 ya3 a4 ya4 a5 ya5 a6 ya6 a7 ya7 a8 ya8 a9 ya9 a10 ya10 a11 ya11 a12 ya12 a13 ya13
  have r0 := pr5.cell 0
  have r1 := pr5.cell 1
  have r7 := pr5.cell 7
  simp at r0 r1 r7
  obtain ⟨hZ2, hZ3⟩ := HZ.out
  have hLr : w.heap.size < W5.heap.size := pr5.lt
  have hS5 : ∀ W, Below W5.heap.size W5 W → (fun W => W.cell? ⟨w.heap.size, 0, none⟩ = some (.int .i64 K) ∧ W.cell? ⟨w.heap.size, 1, none⟩ = some (.int .i64 H) ∧ W.cell? ⟨w.heap.size, 7, none⟩ = some (.int .i64 ac)) W := fun W k => ⟨(k.cell (p := ⟨w.heap.size, 0, none⟩) hLr).trans r0, (k.cell (p := ⟨w.heap.size, 1, none⟩) hLr).trans r1, (k.cell (p := ⟨w.heap.size, 7, none⟩) hLr).trans r7⟩
  have kD : Below W5.heap.size W5 W5.drew := drewN_below _ 1
  refine wp_region_held_drew (S := fun W => W.cell? ⟨w.heap.size, 0, none⟩ = some (.int .i64 K) ∧ W.cell? ⟨w.heap.size, 1, none⟩ = some (.int .i64 H) ∧ W.cell? ⟨w.heap.size, 7, none⟩ = some (.int .i64 ac)) (by kernel_rfl) (hS5 _ kD) (fun hHeld => ?_)
  refine wpAnyH_here 0 (v := ?_) rfl (by kernel_rfl) (by kernel_rfl) (by kernel_rfl) (fun _ _ _ h => h) (Or.inl ⟨by rfl, ?_⟩) hHeld ?_
  rotate_left
  · intro w hSw; (try dsimp only at hSw); go_simp; all_goals (with_reducible rfl)
  try simp only [Act.put, List.setIfInBounds_toArray, List.set_cons_zero, List.set_cons_succ]
  refine wpAnyH_here 1 (v := ?_) rfl (by kernel_rfl) (by kernel_rfl) (by kernel_rfl) (fun _ _ _ h => h) (Or.inl ⟨by rfl, ?_⟩) hHeld ?_
  rotate_left
  · intro w hSw; (try dsimp only at hSw); go_simp; all_goals (with_reducible rfl)
  try simp only [Act.put, List.setIfInBounds_toArray, List.set_cons_zero, List.set_cons_succ]
  refine wpAnyH_here 2 (v := ?_) rfl (by kernel_rfl) (by kernel_rfl) (by kernel_rfl) (fun _ _ _ h => h) (Or.inl ⟨by rfl, ?_⟩) hHeld ?_
  rotate_left
  · intro w hSw; (try dsimp only at hSw); go_simp; all_goals (with_reducible rfl)
  try simp only [Act.put, List.setIfInBounds_toArray, List.set_cons_zero, List.set_cons_succ]
  refine wpAnyH_here 3 (v := ?_) rfl (by kernel_rfl) (by kernel_rfl) (by kernel_rfl) (fun _ _ _ h => h) (Or.inl ⟨by rfl, ?_⟩) hHeld ?_
  rotate_left
  · intro w hSw; (try dsimp only at hSw); go_simp; all_goals (with_reducible rfl)
  try simp only [Act.put, List.setIfInBounds_toArray, List.set_cons_zero, List.set_cons_succ]
  refine wpAnyH_here 5 (v := ?_) rfl (by kernel_rfl) (by kernel_rfl) (by kernel_rfl) (fun _ _ _ h => h) (Or.inl ⟨by rfl, ?_⟩) hHeld ?_
  rotate_left
  · intro w hSw; (try dsimp only at hSw); go_simp; all_goals (with_reducible rfl)
  try simp only [Act.put, List.setIfInBounds_toArray, List.set_cons_zero, List.set_cons_succ]
  refine wpAnyH_here 6 (v := ?_) rfl (by kernel_rfl) (by kernel_rfl) (by kernel_rfl) (fun _ _ _ h => h) (Or.inl ⟨by rfl, ?_⟩) hHeld ?_
  rotate_left
  · intro w hSw; (try dsimp only at hSw); go_simp; all_goals (with_reducible rfl)
  try simp only [Act.put, List.setIfInBounds_toArray, List.set_cons_zero, List.set_cons_succ]
  refine wpAnyH_here 7 (v := ?_) rfl (by kernel_rfl) (by kernel_rfl) (by kernel_rfl) (fun _ _ _ h => h) (Or.inl ⟨by rfl, ?_⟩) hHeld ?_
  rotate_left
  · intro w hSw; (try dsimp only at hSw); go_simp; all_goals (with_reducible rfl)
  try simp only [Act.put, List.setIfInBounds_toArray, List.set_cons_zero, List.set_cons_succ]
  refine wpAnyH_here 8 (v := ?_) rfl (by kernel_rfl) (by kernel_rfl) (by kernel_rfl) (fun _ _ _ h => h) (Or.inl ⟨by rfl, ?_⟩) hHeld ?_
  rotate_left
  · intro w hSw; (try dsimp only at hSw); go_simp; all_goals (with_reducible rfl)
  try simp only [Act.put, List.setIfInBounds_toArray, List.set_cons_zero, List.set_cons_succ]
  refine wpAnyH_here 9 (v := ?_) rfl (by kernel_rfl) (by kernel_rfl) (by kernel_rfl) (fun _ _ _ h => h) (Or.inl ⟨by rfl, ?_⟩) hHeld ?_
  rotate_left
  · intro w hSw; (try dsimp only at hSw); go_simp; all_goals (with_reducible rfl)
  try simp only [Act.put, List.setIfInBounds_toArray, List.set_cons_zero, List.set_cons_succ]
  refine wpAnyH_here 10 (v := ?_) rfl (by kernel_rfl) (by kernel_rfl) (by kernel_rfl) (fun _ _ _ h => h) (Or.inl ⟨by rfl, ?_⟩) hHeld ?_
  rotate_left
  · intro w hSw; (try dsimp only at hSw); go_simp; all_goals (with_reducible rfl)
  try simp only [Act.put, List.setIfInBounds_toArray, List.set_cons_zero, List.set_cons_succ]
  refine wpAnyH_here 11 (v := ?_) rfl (by kernel_rfl) (by kernel_rfl) (by kernel_rfl) (fun _ _ _ h => h) (Or.inl ⟨by rfl, ?_⟩) hHeld ?_
  rotate_left
  · intro w hSw; (try dsimp only at hSw); go_simp; all_goals (with_reducible rfl)
  try simp only [Act.put, List.setIfInBounds_toArray, List.set_cons_zero, List.set_cons_succ]
  obtain ⟨WD, hWD⟩ : ∃ WD, WD = W5.drew := ⟨_, rfl⟩
  rw [← hWD] at kD hHeld ⊢
  clear hWD hZ2 hZ3
  refine wpAnyH_alone 4 rfl (by kernel_rfl) (fun K_ hK => ?_)
  go_simp
  (refine (yun17_any K H WD).mono ?_; rintro e w6 ⟨A6, c6, rfl, d6, k6⟩; have kk6 := kD.trans (k6.mono kD.size))
  refine hK.out _ _ (hS5 _ kk6) (fun hHeld => ?_)
  clear hK K_
  try simp only [Act.put, List.setIfInBounds_toArray, List.set_cons_zero, List.set_cons_succ]
  refine wpAnyH_alone 12 rfl (by kernel_rfl) (fun K_ hK => ?_)
  go_simp
  (refine (xs w6).mono ?_; rintro e w7 ⟨A7, c7, rfl, d7, k7⟩; have kk7 := kk6.trans (k7.mono kk6.size))
  refine hK.out _ _ (hS5 _ kk7) (fun hHeld => ?_)
  clear hK K_
  try simp only [Act.put, List.setIfInBounds_toArray, List.set_cons_zero, List.set_cons_succ]
  refine wpAnyH_alone 13 rfl (by kernel_rfl) (fun K_ hK => ?_)
  go_simp
  obtain ⟨F, hF⟩ : ∃ F, F = w7.heap.size := ⟨_, rfl⟩
  have y8 := Cel.new w7 43 #[.bool true, .bool true, .int .i64 K, .int .i64 H, .int .i64 0, .slice A6 1 c6, .bool true, .bool true, .int .i64 K, .int .i64 H, .int .i64 0, .slice A7 3 c7]
  have k8 := bel_new w7 (.cells #[.bool true, .bool true, .int .i64 K, .int .i64 H, .int .i64 0, .slice A6 1 c6, .bool true, .bool true, .int .i64 K, .int .i64 H, .int .i64 0, .slice A7 3 c7] 43)
  obtain ⟨W8, hW8⟩ : ∃ W8, W8 = w7.alloc (.cells #[.bool true, .bool true, .int .i64 K, .int .i64 H, .int .i64 0, .slice A6 1 c6, .bool true, .bool true, .int .i64 K, .int .i64 H, .int .i64 0, .slice A7 3 c7] 43) := ⟨_, rfl⟩
  rw [← hW8] at y8 k8 ⊢
  rw [← hF] at y8 ⊢
  clear hW8 hF
  have kk8 := kk7.trans (k8.mono kk7.size)
  have d6' := (d6.keep (.of_below k7)).keep (.of_below k8)
  have d7' := d7.keep (.of_below k8)
  have pr8 := Cel.later pr5 kk8
  have pz8 := Cel.later pz5 kk8
  have b8 := b5.trans (kk8.mono b5.size)
  refine hK.out _ _ (hS5 _ kk8) (fun hHeld => ?_)
  clear hK K_
  try simp only [Act.put, List.setIfInBounds_toArray, List.set_cons_zero, List.set_cons_succ]
  refine wpAnyH_here 14 (v := ?_) rfl (by kernel_rfl) (by kernel_rfl) (by kernel_rfl) (fun _ _ _ h => h) (Or.inl ⟨by rfl, ?_⟩) hHeld ?_
  rotate_left
  · intro w hSw; (try dsimp only at hSw); go_simp; all_goals (with_reducible rfl)
  try simp only [Act.put, List.setIfInBounds_toArray, List.set_cons_zero, List.set_cons_succ]
  have CT8 : CT W8 K H ac 2 (some ⟨F, 0, none⟩) 2 2 := .inr (.inr ⟨rfl, F, rfl, rfl, rfl, ⟨_, _, y8, by decide, by decide, by decide⟩, ⟨A6, c6, y8.cell 0, y8.cell 1, y8.cell 2, y8.cell 3, y8.cell 4, y8.cell 5, d6'⟩, ⟨A7, c7, y8.cell 6, y8.cell 7, y8.cell 8, y8.cell 9, y8.cell 10, y8.cell 11, d7'⟩⟩)
  have rc := pr8.cell 10
  have rf := pr8.free 10
  simp at rc
  obtain ⟨W9, hW9⟩ : ∃ W9, W9 = W8.setCell ⟨w.heap.size, 10, none⟩ (.slice (some ⟨F, 0, none⟩) 2 2) := ⟨_, rfl⟩
  have k9 : Only [w.heap.size] W8 W9 := by rw [hW9]; exact put_only _ _ 10 _
  have pr9 : Cel W9 w.heap.size 31 #[.int .i64 K, .int .i64 H, .int .i64 W, .int .i64 T, .int .i64 R, .int .i64 st, .slice A n c, .int .i64 ac, .int .i64 fl, .int .i64 fr, .slice (some ⟨F, 0, none⟩) 2 2, .int .i64 nw1, .int .i64 tm, .int .i64 rp] := by rw [hW9]; exact pr8.put 10 _
  have pz9 := pz8.only k9 (by simp)
  have b9 := b8.trans (k9.below b8.size (by simp))
  have CT9 := CT8.keep (Kq.of_ref pr8 k9)
  have s9 : (fun W => W.cell? ⟨w.heap.size, 0, none⟩ = some (.int .i64 K) ∧ W.cell? ⟨w.heap.size, 1, none⟩ = some (.int .i64 H) ∧ W.cell? ⟨w.heap.size, 7, none⟩ = some (.int .i64 ac)) W9 := ⟨by simpa using pr9.cell 0, by simpa using pr9.cell 1, by simpa using pr9.cell 7⟩
  have H9 := Lib.hid (And.intro pr9 (And.intro pz9 (And.intro b9 (And.intro CT9 s9))))
  clear pr9 pz9 b9 CT9 s9 k9 pr8 pz8 b8 CT8 d6' d7' d6 d7 y8 k8 kk8 kk7 k7 kk6 k6 hS5 hLr kD hHeld xs r0 r1 r7 pr5 pz5 b5
  refine wpAnyH_alone 15 rfl (by kernel_rfl) (fun K_ hK => ?_)
  go_simp
  rw [← hW9]
  refine hK.out _ _ H9.out.2.2.2.2 (fun hHeld => ?_)
  clear hK K_ hW9 rc rf
  try simp only [Act.put, List.setIfInBounds_toArray, List.set_cons_zero, List.set_cons_succ]
  refine wpAnyH_done (by kernel_rfl) ?_ _
  obtain ⟨pr9, pz9, b9, CT9, _⟩ := H9.out
  clear hHeld H9
  have r0 := pr9.cell 0
  have r1 := pr9.cell 1
  have r2 := pr9.cell 2
  have r3 := pr9.cell 3
  have r4 := pr9.cell 4
  have r5 := pr9.cell 5
  have r6 := pr9.cell 6
  have r7 := pr9.cell 7
  have r8 := pr9.cell 8
  have r9 := pr9.cell 9
  have r10 := pr9.cell 10
  have r11 := pr9.cell 11
  have r12 := pr9.cell 12
  have r13 := pr9.cell 13
  simp at r0 r1 r2 r3 r4 r5 r6 r7 r8 r9 r10 r11 r12 r13
  have yr0 := pr9.free 0
  have yr1 := pr9.free 1
  have yr2 := pr9.free 2
  have yr3 := pr9.free 3
  have yr4 := pr9.free 4
  have yr5 := pr9.free 5
  have yr6 := pr9.free 6
  have yr7 := pr9.free 7
  have yr8 := pr9.free 8
  have yr9 := pr9.free 9
  have yr10 := pr9.free 10
  have yr11 := pr9.free 11
  have yr12 := pr9.free 12
  have yr13 := pr9.free 13
  obtain ⟨W10, hW10⟩ : ∃ W10, W10 = (((W9.setCell ⟨w.heap.size, 5, none⟩ (.int .i64 1)).setCell ⟨w.heap.size, 8, none⟩ (.int .i64 0)).setCell ⟨w.heap.size, 9, none⟩ (.int .i64 0)).setCell ⟨w.heap.size, 13, none⟩ (.int .i64 0) := ⟨_, rfl⟩
  have k10 : Only [w.heap.size] W9 W10 := by rw [hW10]; exact only_put (only_put (only_put (put_only _ _ 5 _) 8 _) 9 _) 13 _
  have pr10 : Cel W10 w.heap.size 31 #[.int .i64 K, .int .i64 H, .int .i64 W, .int .i64 T, .int .i64 R, .int .i64 1, .slice A n c, .int .i64 ac, .int .i64 0, .int .i64 0, .slice (some ⟨F, 0, none⟩) 2 2, .int .i64 nw1, .int .i64 tm, .int .i64 0] := by rw [hW10]; exact (((pr9.put 5 _).put 8 _).put 9 _).put 13 _
  have pz10 := pz9.only k10 (by simp)
  have b10 := b9.trans (k10.below b9.size (by simp))
  have CT10 := CT9.keep (Kq.of_ref pr9 k10)
  go_upto_region 7 with fail
  rw [← hW10]
  clear hW10 k10 pr9 pz9 b9 CT9 r0 yr0 r1 yr1 r2 yr2 r3 yr3 r4 yr4 r5 yr5 r6 yr6 r7 yr7 r8 yr8 r9 yr9 r10 yr10 r11 yr11 r12 yr12 r13 yr13
  have r0 := pr10.cell 0
  have r1 := pr10.cell 1
  have r2 := pr10.cell 2
  have r3 := pr10.cell 3
  have r4 := pr10.cell 4
  have r5 := pr10.cell 5
  have r6 := pr10.cell 6
  have r7 := pr10.cell 7
  have r8 := pr10.cell 8
  have r9 := pr10.cell 9
  have r10 := pr10.cell 10
  have r11 := pr10.cell 11
  have r12 := pr10.cell 12
  have r13 := pr10.cell 13
  simp at r0 r1 r2 r3 r4 r5 r6 r7 r8 r9 r10 r11 r12 r13
  have yr12 := pr10.free 12
  have z0 := pz10.cell 0
  have z1 := pz10.cell 1
  have z2 := pz10.cell 2
  have z3 := pz10.cell 3
  have z4 := pz10.cell 4
  have z5 := pz10.cell 5
  have z6 := pz10.cell 6
  have z7 := pz10.cell 7
  have z8 := pz10.cell 8
  have z9 := pz10.cell 9
  have z10 := pz10.cell 10
  have z11 := pz10.cell 11
  have z12 := pz10.cell 12
  have z13 := pz10.cell 13
  simp at z0 z1 z2 z3 z4 z5 z6 z7 z8 z9 z10 z11 z12 z13
  have yz0 := pz10.free 0
  have yz1 := pz10.free 1
  have yz2 := pz10.free 2
  have yz3 := pz10.free 3
  have yz4 := pz10.free 4
  have yz5 := pz10.free 5
  have yz6 := pz10.free 6
  have yz7 := pz10.free 7
  have yz8 := pz10.free 8
  have yz9 := pz10.free 9
  have yz10 := pz10.free 10
  have yz11 := pz10.free 11
  have yz12 := pz10.free 12
  have yz13 := pz10.free 13
  obtain ⟨W11, hW11⟩ : ∃ W11, W11 = W10.setCell ⟨w.heap.size, 12, none⟩ (.int .i64 nw1) := ⟨_, rfl⟩
  have k11 : Only [w.heap.size] W10 W11 := by rw [hW11]; exact put_only _ _ 12 _
  have pz11 := pz10.only k11 (by simp)
  have b11 := b10.trans (k11.below b10.size (by simp))
  have CT11 := CT10.keep (Kq.of_ref pr10 k11)
  have k12 := put14_only W11 (w.heap.size + 1) (.int .i64 K) (.int .i64 H) (.int .i64 W) (.int .i64 T) (.int .i64 R) (.int .i64 1) (.slice A n c) (.int .i64 ac) (.int .i64 0) (.int .i64 0) (.slice (some ⟨F, 0, none⟩) 2 2) (.int .i64 nw1) (.int .i64 nw1) (.int .i64 0)
  have HFIN := Lib.hid (And.intro (put14_cel pz11 (.int .i64 K) (.int .i64 H) (.int .i64 W) (.int .i64 T) (.int .i64 R) (.int .i64 1) (.slice A n c) (.int .i64 ac) (.int .i64 0) (.int .i64 0) (.slice (some ⟨F, 0, none⟩) 2 2) (.int .i64 nw1) (.int .i64 nw1) (.int .i64 0)) (And.intro (CT11.keep (Kq.of_ref pz11 k12)) (b11.trans (k12.below b11.size (by simp)))))
  unfold put14 at HFIN
  rw [hW11] at HFIN
  clear hW11 k11 pz11 b11 CT11 k12 pr10 pz10 b10 CT10
  go_wp2
  obtain ⟨fin_a, fin_b, fin_c⟩ := HFIN.out
  clear HFIN
  exact bodyPost_ret (xu_results rfl fin_a) rfl ⟨⟨_, rfl, fin_b⟩, fin_c⟩
end Go.Proofs.Ytdpjjhbfhlmolaa.Fop
