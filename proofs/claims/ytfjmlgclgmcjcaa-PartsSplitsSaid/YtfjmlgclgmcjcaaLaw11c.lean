/-
  The walk of the law PartsSplits.
-/
import Derived.Test.YtfjmlgclgmcjcaaLaw11a
import Derived.Test.YtfjmlgclgmcjcaaRef11f
import Derived.Test.YtfjmlgclgmcjcaaLater
namespace Go.Proofs.Ytfjmlgclgmcjcaa.Par
open Go.RowKit Go.Proofs.Ytfjmlgclgmcjcaa.Row
open Pac (Pk bel_new Cel.later Cel.within)

set_option maxHeartbeats 4000000 in
theorem partsSplits_walk (p : Pk) (a0 : Option Addr) (n0 c0 : Nat) (d : List Byte) (A : Option Addr) (L cap : Nat) (most : Int) (w : World) (hL : Hid (d.length = L)) (hd : Dt w w.heap.size d A cap) :
    Calls Try.prog 3 #[.agg #[.bool p.com, .bool p.sec, .int .i64 p.ap, .int .i64 p.fl, .int .i64 p.ct, .slice a0 n0 c0], .slice A L cap, .int .i64 most] w fun e w' => e = .returned (.bool true) ∧ Below w.heap.size w w' := by
  have y1 := Cel.new w 24 #[.bool p.com, .bool p.sec, .int .i64 p.ap, .int .i64 p.fl, .int .i64 p.ct, .slice a0 n0 c0]
  have b1 := bel_new w (.cells #[.bool p.com, .bool p.sec, .int .i64 p.ap, .int .i64 p.fl, .int .i64 p.ct, .slice a0 n0 c0] 24)
  by_cases hbig : 3000 < L
  · have g1 : decide ((3000 : Int) < (L : Int)) = true := by simp; omega
    have g2 : decide (3000 < L) = true := by simp; omega
    clear hbig hd y1
    go_enter Try.func3, Try.ntmps3
    go_wp2_with fail
    refine (alive11_any _).mono ?_
    rintro e w1 ⟨rfl, h1⟩
    go_wp2
    go_ret
    exact ⟨rfl, b1.trans (h1.mono b1.size)⟩
  have g1 : decide ((3000 : Int) < (L : Int)) = false := by simp; omega
  have g2 : decide (3000 < L) = false := by simp; omega
  obtain ⟨E, hE⟩ : ∃ E, E = spE p d.length most := ⟨_, rfl⟩
  obtain ⟨R, hR⟩ : ∃ R, R = spP p d most := ⟨_, rfl⟩
  obtain ⟨N, hN⟩ : ∃ N, N = R.length := ⟨_, rfl⟩
  have x1 := fun W hW => split_any p a0 n0 c0 d A cap most W hW (by have := hL.out; omega)
  have x2 := fun W hW => xsplit_any p a0 n0 c0 d A cap most W hW (by have := hL.out; omega)
  simp only [← hE, ← hR, ← hN, hL.out] at x1 x2
  have hNN := Lib.hid hN
  have e1 : (N != N) = false := by simp
  have e2 : (E != E) = false := by simp
  have e3 : ((N : Int) != (N : Int)) = false := by simp
  have hN48 : N ≤ 3000 := by have h := spP_len_le p d most; rw [← hR, ← hN, hL.out] at h; omega
  clear hE hR hN hbig
  go_enter Try.func3, Try.ntmps3
  go_wp2_with fail
  refine (x1 _ ((hd.below b1).more b1.size)).mono ?_
  rintro e w2 ⟨A1, c1, rfl, ps1, b2⟩
  have y2 := Cel.later y1 b2
  have b3 := b1.trans (b2.mono b1.size)
  have q0 := y2.cell 0
  have q1 := y2.cell 1
  have q2 := y2.cell 2
  have q3 := y2.cell 3
  have q4 := y2.cell 4
  have q5 := y2.cell 5
  simp at q0 q1 q2 q3 q4 q5
  clear x1 y1 b1 b2
  go_wp2_with fail
  refine (x2 _ ((hd.below b3).more b3.size)).mono ?_
  rintro e w3 ⟨A2, c2, rfl, ps2, b4⟩
  have b5 := b3.trans (b4.mono b3.size)
  have ps1 := (ps1.below b4).more b4.size
  clear x2 y2 b3 b4 q0 q1 q2 q3 q4 q5 hd
  go_wp2
  go_loopw [11] (fun i wr => ∃ k : Nat, k ≤ N ∧ i = .int .i64 (k : Int) ∧ Below w3.heap.size w3 wr)
    (fun i _ => N - (intOf i).toNat)
  case atStart => exact ⟨0, Nat.zero_le _, rfl, Below.refl _ _⟩
  case round =>
    obtain ⟨k, hk, rfl, hB⟩ := hrel
    by_cases hkN : k < N
    · obtain ⟨q, hq⟩ : ∃ q, R[k]? = some q := ⟨_, List.getElem?_eq_getElem (by have := hNN.out; omega)⟩
      obtain ⟨z1, o1, s1, v1, rfl, hz1, u0, u1, u2, u3, u4, u5, du⟩ := (ps1.below hB).at_ hq
      obtain ⟨z2, o2, s2, v2, rfl, hz2, m0, m1, m2, m3, m4, m5, dm⟩ := (ps2.below hB).at_ hq
      have i0 : (0 : Int) ≤ (k : Int) := Int.natCast_nonneg _
      have i1 : (k : Int) < (N : Int) := by omega
      have hz1' : z1 < wr.heap.size := Nat.lt_of_lt_of_le hz1 hB.size
      have hz2' : z2 < wr.heap.size := Nat.lt_of_lt_of_le hz2 hB.size
      have du' := du.more hB.size
      have dm' := dm.more hB.size
      obtain ⟨M, hM⟩ : ∃ M, M = q.d.length := ⟨_, rfl⟩
      have xs := fun W (hW : Below wr.heap.size wr W) => xsame_any q s1 s2 v1 v2 W ((du'.below hW).more hW.size).b ((dm'.below hW).more hW.size).b du.n dm.n
      simp only [← hM] at xs u5 m5
      clear hM hq
      go_wp2_with fail
      refine wp_region_later (by kernel_rfl) (by kernel_rfl) ?_
      have r0 : ∀ p : Later wr, p.W.cell? ⟨z1, o1 + k * 6, none⟩ = some (.bool q.com) := later_cell u0 hz1'
      have r1 : ∀ p : Later wr, p.W.cell? ⟨z1, o1 + k * 6 + 1, none⟩ = some (.bool q.sec) := later_cell u1 hz1'
      have r2 : ∀ p : Later wr, p.W.cell? ⟨z1, o1 + k * 6 + 2, none⟩ = some (.int .i64 q.ap) := later_cell u2 hz1'
      have r3 : ∀ p : Later wr, p.W.cell? ⟨z1, o1 + k * 6 + 3, none⟩ = some (.int .i64 q.fl) := later_cell u3 hz1'
      have r4 : ∀ p : Later wr, p.W.cell? ⟨z1, o1 + k * 6 + 4, none⟩ = some (.int .i64 q.ct) := later_cell u4 hz1'
      have r5 : ∀ p : Later wr, p.W.cell? ⟨z1, o1 + k * 6 + 5, none⟩ = some (.slice s1 M v1) := later_cell u5 hz1'
      have t0 : ∀ p : Later wr, p.W.cell? ⟨z2, o2 + k * 6, none⟩ = some (.bool q.com) := later_cell m0 hz2'
      have t1 : ∀ p : Later wr, p.W.cell? ⟨z2, o2 + k * 6 + 1, none⟩ = some (.bool q.sec) := later_cell m1 hz2'
      have t2 : ∀ p : Later wr, p.W.cell? ⟨z2, o2 + k * 6 + 2, none⟩ = some (.int .i64 q.ap) := later_cell m2 hz2'
      have t3 : ∀ p : Later wr, p.W.cell? ⟨z2, o2 + k * 6 + 3, none⟩ = some (.int .i64 q.fl) := later_cell m3 hz2'
      have t4 : ∀ p : Later wr, p.W.cell? ⟨z2, o2 + k * 6 + 4, none⟩ = some (.int .i64 q.ct) := later_cell m4 hz2'
      have t5 : ∀ p : Later wr, p.W.cell? ⟨z2, o2 + k * 6 + 5, none⟩ = some (.slice s2 M v2) := later_cell m5 hz2'
      clear u0 u1 u2 u3 u4 u5 m0 m1 m2 m3 m4 m5 du dm du' dm' ps1 ps2
      repeat (go_big_quiet_step ((first
        | (go_at_call 12; exact later_of (xs _ (Later.h _))))))
      refine wpQuiet_nil ?_
      rintro _ ⟨⟨w5, hbel5⟩, rfl⟩
      go_wp2
      go_round
      case measure => simp only [intOf]; omega
      case rel => exact ⟨k + 1, hkN, rfl, hB.trans (hbel5.mono hB.size)⟩
    · have hkN' : k = N := by omega
      subst hkN'
      have hal := alive11_any wr
      clear hkN
      go_wp2_with fail
      refine hal.mono ?_
      rintro e w6 ⟨rfl, b6⟩
      go_wp2
      go_ret
      exact ⟨rfl, b5.trans ((hB.trans (b6.mono hB.size)).mono b5.size)⟩
end Go.Proofs.Ytfjmlgclgmcjcaa.Par
