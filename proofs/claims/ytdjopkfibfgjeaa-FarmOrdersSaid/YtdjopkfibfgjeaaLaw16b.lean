/-
  The walk of the law FarmLocks.
-/
import Derived.Test.YtdjopkfibfgjeaaLaw16a
namespace Go.Proofs.Ytdjopkfibfgjeaa.Far
open Go.RowKit
open Pac (bel_new Cel.later)
open Tcf (Fr dir)

/-- Go's remainder by 256, turned into a number from 0 up -/
theorem num256 (x : Int) : ∃ T N : Int, x.tmod 256 = T ∧ -256 < T ∧ T < 256 ∧ (T + 256).tmod 256 = N ∧ 0 ≤ N ∧ N ≤ 255 := by
  refine ⟨x.tmod 256, x % 256, rfl, ?_, ?_, ?_, ?_, ?_⟩
  · have := (tmod_in x 8).1
    rw [pw8] at this
    exact this
  · have := (tmod_in x 8).2
    rw [pw8] at this
    exact this
  · have := tmod_pw x 8
    rw [pw8] at this
    exact this
  · omega
  · omega
theorem rcv_one {W : Int} {s : St} {q : Int} (h : q ≠ s.nx) (room : Bool) : (rcv W s q room).1 ≠ 1 := by
  unfold rcv
  rw [if_neg h]
  split
  · simp
  · split <;> simp

set_option maxRecDepth 100000 in
set_option maxHeartbeats 4000000 in
theorem farmLocks_walk (seq other : Int) (w : World) :
    Calls Try.prog 5 #[.int .i64 seq, .int .i64 other] w fun e w' => e = .returned (.bool true) ∧ Below w.heap.size w w' := by
  have x1 := PF.new (w := w) (K := 7) (H := 1) 4 (W := 4) (by decide) (by decide) (by decide) (by decide) (by decide)
  have d100 := fun W => data_any 100 W (by decide) (by decide)
  have d0 := fun W => data_any 0 W (by decide) (by decide)
  obtain ⟨T1, N1, t1, u1, u2, v1, n1, n2⟩ := num256 seq
  obtain ⟨T2, N2, t2, u3, u4, v2, n3, n4⟩ := num256 other
  have dN1 := fun W => data_any N1 W n1 n2
  have dN2 := fun W => data_any N2 W n3 n4
  have tk1 : tke 7 1 4 ⟨true, false, false, 0, 0⟩ ⟨false, false, 7, 1, N1, [bq N1]⟩ true = (4, ⟨true, false, false, 0, 0⟩) := by rw [tke_fr n1 n2]; rfl
  have tk2 : tke 7 1 4 ⟨false, false, false, 1, 1⟩ ⟨false, false, 7, 1, N2, [bq N2]⟩ true = rcv 4 ⟨false, false, false, 1, 1⟩ N2 true := by rw [tke_fr n3 n4]; rfl
  obtain ⟨R, hR⟩ : ∃ R, R = rcv 4 ⟨false, false, false, 1, 1⟩ N2 true := ⟨_, rfl⟩
  rw [← hR] at tk2
  obtain ⟨V, S'⟩ := R
  have hV : (N2 != 1) = (V != 1) := by
    by_cases h : N2 = 1
    · subst h
      have e : rcv 4 ⟨false, false, false, 1, 1⟩ 1 true = (1, ⟨false, false, false, 1, 2⟩) := by decide
      rw [e] at hR
      injection hR with h1
      rw [h1]
    · have := rcv_one (W := 4) (s := ⟨false, false, false, 1, 1⟩) h true
      rw [← hR] at this
      rw [show (N2 != 1) = true by simpa using h, show (V != 1) = true by simpa using this]
  obtain ⟨X, hX⟩ : ∃ X, X = (V != 1) := ⟨_, rfl⟩
  have y1 : (N2 != 1) = X := by rw [hV, hX]
  have y2 : (V != 1) = X := hX.symm
  have y3 : (X == X) = true := by simp
  obtain ⟨D, hD⟩ : ∃ D, dat V [bq N2] = D := ⟨_, rfl⟩
  obtain ⟨m, hm⟩ : ∃ m, D.length = m := ⟨_, rfl⟩
  have HD := Lib.hid hD
  have Hm := Lib.hid hm
  obtain ⟨g, hg⟩ : ∃ g, g = w.heap.size := ⟨_, rfl⟩
  rw [← hg] at x1 ⊢
  clear hg hR hV hX hD hm n1 n2 n3 n4
  go_enter Try.func5, Try.ntmps5
  go_wp2_with fail
  refine x1.mono ?_
  rintro e w1 ⟨rfl, p1⟩
  clear x1
  go_wp2_with fail
  refine (d100 w1).mono ?_
  rintro e w2 ⟨A2, rfl, r2, b2⟩
  have p2 := p1.below b2
  clear p1 b2 d100
  go_wp2_with fail
  refine (p2.take r2 true (V := 4) (S' := ⟨true, false, false, 0, 0⟩) (D := []) (m := 0) (by rw [tke_fr (by decide) (by decide)]; decide) rfl rfl).mono ?_
  rintro e w3 ⟨⟨A3, c3, rfl, r3⟩, p3, _⟩
  clear p2 r2 r3
  go_wp2_with fail
  refine (dN1 w3).mono ?_
  rintro e w4 ⟨A4, rfl, r4, b4⟩
  have p4 := p3.below b4
  clear p3 b4 dN1
  go_wp2_with fail
  refine (p4.take r4 true (V := 4) (S' := ⟨true, false, false, 0, 0⟩) (D := []) (m := 0) tk1 rfl rfl).mono ?_
  rintro e w5 ⟨⟨A5, c5, rfl, r5⟩, p5, _⟩
  clear p4 r4 r5 tk1
  obtain ⟨w6, hw6⟩ : ∃ w6, w6 = w5.alloc (.cells #[.int .u8 0] 5) := ⟨_, rfl⟩
  have b6 : Below w5.heap.size w5 w6 := by rw [hw6]; exact bel_new _ _
  have r6 : Rd w6 (some ⟨w5.heap.size, 0, none⟩) [0#8] 1 1 := by rw [hw6]; exact ⟨rfl, Bs_new _ _ _ _ (by simp) _ (by simp) _, (fun h => nomatch h), by decide, by decide⟩
  have p6 := p5.below b6
  clear p5 b6
  go_wp2_with fail
  rw [← hw6]
  refine (p6.take r6 true (V := 5) (S' := ⟨false, false, false, 1, 0⟩) (D := []) (m := 0) (by decide) rfl rfl).mono ?_
  rintro e w7 ⟨⟨A7, c7, rfl, r7⟩, p7, _⟩
  have x8 := p7.report
  dsimp only at x8
  have wl := word_lock 1 1 0 false false false
  have wb := word_byp 1 1 0 false false false
  clear p6 r6 hw6 r7
  go_wp2_with fail
  refine x8.mono ?_
  rintro e w8 ⟨rfl, p8, _⟩
  have x9 := p8.report
  dsimp only at x9
  clear x8 p7
  go_wp2_with fail
  refine x9.mono ?_
  rintro e w9 ⟨rfl, p9, _⟩
  clear x9 p8
  go_wp2_with fail
  refine (d0 w9).mono ?_
  rintro e w10 ⟨A10, rfl, r10, b10⟩
  have p10 := p9.below b10
  clear p9 b10 d0
  go_wp2_with fail
  refine (p10.take r10 true (V := 1) (S' := ⟨false, false, false, 1, 1⟩) (D := [bq 0]) (m := 1) (by rw [tke_fr (by decide) (by decide)]; decide) rfl rfl).mono ?_
  rintro e w11 ⟨⟨A11, c11, rfl, r11⟩, p11, _⟩
  clear p10 r10 r11
  go_wp2_with fail
  refine (dN2 w11).mono ?_
  rintro e w12 ⟨A12, rfl, r12, b12⟩
  have p12 := p11.below b12
  clear p11 b12 dN2
  go_wp2_with fail
  refine (p12.take r12 true tk2 HD.out Hm.out).mono ?_
  rintro e w13 ⟨⟨A13, c13, rfl, r13⟩, p13, _⟩
  clear p12 r12 r13 tk2
  go_wp2_with fail
  refine (alive16_any w13).mono ?_
  rintro e w14 ⟨rfl, b14⟩
  go_wp2
  go_ret
  exact ⟨rfl, (p13.below b14).b⟩
end Go.Proofs.Ytdjopkfibfgjeaa.Far
