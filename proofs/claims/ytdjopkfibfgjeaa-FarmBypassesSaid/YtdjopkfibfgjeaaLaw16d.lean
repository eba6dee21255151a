/-
  The walk of the law FarmOrders.
-/
import Derived.Test.YtdjopkfibfgjeaaLaw16b
import Derived.Test.YtdjopkfibfgjeaaIntArg
import Derived.Test.YtdjopkfibfgjeaaBoolArg
namespace Go.Proofs.Ytdjopkfibfgjeaa.Far
open Go.RowKit
open Pac (bel_new Cel.later)
open Tcf (Fr dir)
open Ints (Ns)
open Bools (Nb)

/-- what is delivered in sequence bears the next number, and counts it on -/
theorem ord_step {W N Y V : Int} {s S' : St} {room : Bool} (h0 : 0 ≤ N) (h1 : N ≤ 255) (hY : s.nx = Y) (h : tke 7 1 W s ⟨false, false, 7, 1, N, [bq N]⟩ room = (V, S')) :
    (V = 1 ∧ N = Y ∧ S'.nx = (Y + 1) % 256) ∨ ((V == 1) = false ∧ V ≠ 1 ∧ S'.nx = Y) := by
  subst hY
  rw [tke_fr h0 h1] at h
  unfold rcv at h
  split at h
  · injection h with a b
    subst a b
    exact .inr ⟨by decide, by decide, rfl⟩
  · split at h
    · rename_i hq
      split at h
      · injection h with a b
        subst a b
        exact .inl ⟨rfl, hq, rfl⟩
      · injection h with a b
        subst a b
        exact .inr ⟨by decide, by decide, rfl⟩
    · split at h
      · injection h with a b
        subst a b
        exact .inr ⟨by decide, by decide, rfl⟩
      · split at h
        · injection h with a b
          subst a b
          exact .inr ⟨by decide, by decide, rfl⟩
        · injection h with a b
          subst a b
          exact .inr ⟨by decide, by decide, rfl⟩

set_option maxRecDepth 100000 in
set_option maxHeartbeats 8000000 in
theorem farmOrders_walk (m : Int) (l : List Int) (w : World) (A : Option Addr) (c : Nat) (hl : Ns w w.heap.size A l) (fl : List Bool) (Af : Option Addr) (cf : Nat) (hf : Nb w w.heap.size Af fl) :
    Calls Try.prog 4 #[.int .i64 m, .slice A l.length c, .slice Af fl.length cf] w fun e w' => e = .returned (.bool true) ∧ Below w.heap.size w w' := by
  have x1 := PF.new (w := w) (K := 7) (H := 1) m (W := clw m) rfl (by decide) (by decide) (by decide) (by decide)
  obtain ⟨W, hW⟩ : ∃ W, W = clw m := ⟨_, rfl⟩
  rw [← hW] at x1
  obtain ⟨n, hn⟩ : ∃ n, n = l.length := ⟨_, rfl⟩
  obtain ⟨nf, hnf⟩ : ∃ nf, nf = fl.length := ⟨_, rfl⟩
  rw [← hn, ← hnf]
  obtain ⟨g, hg⟩ : ∃ g, g = w.heap.size := ⟨_, rfl⟩
  rw [← hg] at x1 hl hf ⊢
  have HN := Lib.hid hn
  have HF := Lib.hid hnf
  clear hnf hW
  by_cases hbig : 200 < n
  · have t1 : decide ((200 : Int) < (n : Int)) = true := by simp; omega
    have t2 : decide (200 < n) = true := by simpa using hbig
    clear hl hbig hn x1
    go_enter Try.func4, Try.ntmps4
    go_wp2_with fail
    refine (alive16_any w).mono ?_
    rintro e w4 ⟨rfl, b4⟩
    go_wp2
    go_ret
    exact ⟨rfl, by rw [hg]; exact b4⟩
  · have t1 : decide ((200 : Int) < (n : Int)) = false := by simp; omega
    have t2 : decide (200 < n) = false := by simpa using hbig
    have hn1 : n ≤ 200 := by omega
    clear hbig hn hg
    go_enter Try.func4, Try.ntmps4
    go_wp2_with fail
    refine x1.mono ?_
    rintro e w1 ⟨rfl, p1⟩
    clear x1
    go_wp2_with fail
    go_loopw [8, 9, 10, 11, 12] (fun y i _ _ _ wr => ∃ (k : Nat) (q : Int), k ≤ n ∧ y = .int .i64 q ∧ i = .int .i64 k ∧ 0 ≤ q ∧ q ≤ (k : Int) ∧ ∃ s : St, PF w wr g g 7 1 W s ∧ Hid (s.nx = q % 256)) (fun _ i _ _ _ _ => n - (intOf i).toNat)
    case atStart => exact ⟨0, 0, Nat.zero_le _, rfl, rfl, by decide, by decide, st0, p1, Lib.hid rfl⟩
    case round =>
      obtain ⟨k, q, hk, rfl, rfl, hq0, hqk, s, p, hs⟩ := hrel
      clear p1
      by_cases hlt : k < n
      · have hkl : k < l.length := by have := HN.out; omega
        obtain ⟨b, off, rfl, hbw, q1⟩ := hl.at_ hkl
        generalize l[k] = x at q1
        have q2 := (p.b.cell (p := ⟨b, off + k, none⟩) hbw).trans q1
        obtain ⟨T, N, t3, u1, u2, v1, n1, n2⟩ := num256 x
        have dN := fun W => data_any N W n1 n2
        obtain ⟨Y, hY⟩ : ∃ Y, Y = q % 256 := ⟨_, rfl⟩
        have hs : s.nx = Y := by rw [hY]; exact hs.out
        have hY0 : 0 ≤ Y ∧ Y ≤ 255 := by omega
        have y1 : q % 256 = Y := hY.symm
        have y2 : q.tmod 256 = Y := by rw [hY]; exact Int.tmod_eq_emod_of_nonneg hq0
        have HY := Lib.hid hY
        have Hs := Lib.hid hs
        have hk200 : k ≤ 200 := by omega
        clear q1 hkl hs hY
        by_cases hfk : k < nf
        · have g1 : decide ((nf : Int) ≤ (k : Int)) = false := by simp; omega
          have g2 : decide (nf ≤ k) = false := by simp; omega
          have hfl : k < fl.length := by have := HF.out; omega
          obtain ⟨bf, of_, rfl, hbf, f1⟩ := hf.at_ hfl
          generalize fl[k] = v at f1
          obtain ⟨R, hR⟩ : ∃ R, (!v) = R := ⟨_, rfl⟩
          obtain ⟨Z, hZ⟩ : ∃ Z, tke 7 1 W s ⟨false, false, 7, 1, N, [bq N]⟩ R = Z := ⟨_, rfl⟩
          obtain ⟨V, s1⟩ := Z
          have hst := ord_step n1 n2 Hs.out hZ
          have HZ := Lib.hid hZ
          clear hZ hfl
          go_wp2_with fail
          refine (dN wr).mono ?_
          rintro e w2 ⟨A2, rfl, r2, b2⟩
          have p2 := p.below b2
          have f2 := (p2.b.cell (p := ⟨bf, of_ + k, none⟩) hbf).trans f1
          clear p b2 dN f1
          rcases hst with ⟨rfl, hNY, hnx⟩ | ⟨hV, hV1, hnx⟩
          · have nn : (N != Y) = false := by simpa using hNY
            have Hnx := Lib.hid hnx
            clear hNY hnx
            go_wp2_with fail
            refine (p2.take r2 R HZ.out (D := [bq N]) (m := 1) rfl rfl).mono ?_
            rintro e w3 ⟨⟨A3, c3, rfl, r3⟩, p3, _⟩
            obtain ⟨X, hX⟩ : ∃ X, X = str [bq N] := ⟨_, rfl⟩
            have c1 := r3.conv (Below.refl _ _)
            obtain ⟨w4, hw4⟩ : ∃ w4, w4 = w3.alloc (.cells #[.int .u8 N] 5) := ⟨_, rfl⟩
            have b4 : Below w3.heap.size w3 w4 := by rw [hw4]; exact bel_new _ _
            have r4 : Rd w4 (some ⟨w3.heap.size, 0, none⟩) [bq N] 1 1 := by rw [hw4]; exact ⟨rfl, Bs_new _ _ _ _ (by simp [bq_nat n1 n2]) _ (by simp) _, (fun h => nomatch h), by decide, by decide⟩
            have c2 := r4.conv (Below.refl _ _)
            rw [← hX] at c1 c2
            rw [hw4] at c2
            have p4 := p3.below b4
            have x4 := p4.report
            have ww := word_next 1 s1.bc s1.nx s1.lk s1.wt s1.rt
            obtain ⟨U, hU⟩ : ∃ U, s1.nx = U := ⟨_, rfl⟩
            rw [hU] at x4 ww
            have z1 : (q + 1) % 256 = U := by rw [← hU, Hnx.out, HY.out]; omega
            have z2 : (q + 1).tmod 256 = U := by rw [Int.tmod_eq_emod_of_nonneg (by omega)]; exact z1
            have z3 : (U != U) = false := by simp
            have HU := Lib.hid (hU.trans z1.symm)
            clear hU Hnx hX HZ r2 p2 f2 b4 r4 HY Hs p3 r3
            go_wp2_with fail
            rw [← hw4]
            refine x4.mono ?_
            rintro e w5 ⟨rfl, p5, _⟩
            clear x4 hw4 p4 c1 c2
            go_wp2
            go_roundw
            case rel => exact ⟨k + 1, q + 1, hlt, rfl, by simp, by omega, by omega, s1, p5, HU⟩
            case measure => simp [intOf]; omega
          · obtain ⟨D, hD⟩ : ∃ D, dat V [bq N] = D := ⟨_, rfl⟩
            have hD0 : D = [] := by rw [← hD]; unfold dat; rw [if_neg hV1]
            subst hD0
            have HD := Lib.hid hD
            have Hnx := Lib.hid hnx
            clear hD hnx
            go_wp2_with fail
            refine (p2.take r2 R HZ.out HD.out (m := 0) rfl).mono ?_
            rintro e w3 ⟨⟨A3, c3, rfl, r3⟩, p3, _⟩
            have x4 := p3.report
            have ww := word_next 1 s1.bc s1.nx s1.lk s1.wt s1.rt
            rw [Hnx.out] at x4 ww
            have z3 : (Y != Y) = false := by simp
            have HU := Lib.hid (Hnx.out.trans y1.symm)
            clear Hnx n1 n2 HZ r2 p2 f2 HY Hs p3 r3 HD
            go_wp2_with fail
            refine x4.mono ?_
            rintro e w5 ⟨rfl, p5, _⟩
            clear x4
            go_wp2
            go_roundw
            case rel => exact ⟨k + 1, q, hlt, rfl, by simp, by omega, by omega, s1, p5, HU⟩
            case measure => simp [intOf]; omega
        · have g1 : decide ((nf : Int) ≤ (k : Int)) = true := by simp; omega
          have g2 : decide (nf ≤ k) = true := by simp; omega
          obtain ⟨R, hR⟩ : ∃ R, true = R := ⟨_, rfl⟩
          subst hR
          obtain ⟨Z, hZ⟩ : ∃ Z, tke 7 1 W s ⟨false, false, 7, 1, N, [bq N]⟩ true = Z := ⟨_, rfl⟩
          obtain ⟨V, s1⟩ := Z
          have hst := ord_step n1 n2 Hs.out hZ
          have HZ := Lib.hid hZ
          clear hZ
          go_wp2_with fail
          refine (dN wr).mono ?_
          rintro e w2 ⟨A2, rfl, r2, b2⟩
          have p2 := p.below b2
          clear p b2 dN
          rcases hst with ⟨rfl, hNY, hnx⟩ | ⟨hV, hV1, hnx⟩
          · have nn : (N != Y) = false := by simpa using hNY
            have Hnx := Lib.hid hnx
            clear hNY hnx
            go_wp2_with fail
            refine (p2.take r2 true HZ.out (D := [bq N]) (m := 1) rfl rfl).mono ?_
            rintro e w3 ⟨⟨A3, c3, rfl, r3⟩, p3, _⟩
            obtain ⟨X, hX⟩ : ∃ X, X = str [bq N] := ⟨_, rfl⟩
            have c1 := r3.conv (Below.refl _ _)
            obtain ⟨w4, hw4⟩ : ∃ w4, w4 = w3.alloc (.cells #[.int .u8 N] 5) := ⟨_, rfl⟩
            have b4 : Below w3.heap.size w3 w4 := by rw [hw4]; exact bel_new _ _
            have r4 : Rd w4 (some ⟨w3.heap.size, 0, none⟩) [bq N] 1 1 := by rw [hw4]; exact ⟨rfl, Bs_new _ _ _ _ (by simp [bq_nat n1 n2]) _ (by simp) _, (fun h => nomatch h), by decide, by decide⟩
            have c2 := r4.conv (Below.refl _ _)
            rw [← hX] at c1 c2
            rw [hw4] at c2
            have p4 := p3.below b4
            have x4 := p4.report
            have ww := word_next 1 s1.bc s1.nx s1.lk s1.wt s1.rt
            obtain ⟨U, hU⟩ : ∃ U, s1.nx = U := ⟨_, rfl⟩
            rw [hU] at x4 ww
            have z1 : (q + 1) % 256 = U := by rw [← hU, Hnx.out, HY.out]; omega
            have z2 : (q + 1).tmod 256 = U := by rw [Int.tmod_eq_emod_of_nonneg (by omega)]; exact z1
            have z3 : (U != U) = false := by simp
            have HU := Lib.hid (hU.trans z1.symm)
            clear hU Hnx hX HZ r2 p2 b4 r4 HY Hs p3 r3
            go_wp2_with fail
            rw [← hw4]
            refine x4.mono ?_
            rintro e w5 ⟨rfl, p5, _⟩
            clear x4 hw4 p4 c1 c2
            go_wp2
            go_roundw
            case rel => exact ⟨k + 1, q + 1, hlt, rfl, by simp, by omega, by omega, s1, p5, HU⟩
            case measure => simp [intOf]; omega
          · obtain ⟨D, hD⟩ : ∃ D, dat V [bq N] = D := ⟨_, rfl⟩
            have hD0 : D = [] := by rw [← hD]; unfold dat; rw [if_neg hV1]
            subst hD0
            have HD := Lib.hid hD
            have Hnx := Lib.hid hnx
            clear hD hnx
            go_wp2_with fail
            refine (p2.take r2 true HZ.out HD.out (m := 0) rfl).mono ?_
            rintro e w3 ⟨⟨A3, c3, rfl, r3⟩, p3, _⟩
            have x4 := p3.report
            have ww := word_next 1 s1.bc s1.nx s1.lk s1.wt s1.rt
            rw [Hnx.out] at x4 ww
            have z3 : (Y != Y) = false := by simp
            have HU := Lib.hid (Hnx.out.trans y1.symm)
            clear Hnx n1 n2 HZ r2 p2 HY Hs p3 r3 HD
            go_wp2_with fail
            refine x4.mono ?_
            rintro e w5 ⟨rfl, p5, _⟩
            clear x4
            go_wp2
            go_roundw
            case rel => exact ⟨k + 1, q, hlt, rfl, by simp, by omega, by omega, s1, p5, HU⟩
            case measure => simp [intOf]; omega
      · obtain rfl : k = n := by omega
        clear hlt
        go_wp2_with fail
        refine (alive16_any wr).mono ?_
        rintro e w6 ⟨rfl, b6⟩
        go_wp2
        go_ret
        exact ⟨rfl, (p.below b6).b⟩
end Go.Proofs.Ytdjopkfibfgjeaa.Far
