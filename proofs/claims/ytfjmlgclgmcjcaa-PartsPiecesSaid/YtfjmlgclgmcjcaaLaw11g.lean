/-
  The walk of the law PartsPieces.
-/
import Derived.Test.YtfjmlgclgmcjcaaLaw11e
namespace Go.Proofs.Ytfjmlgclgmcjcaa.Par
open Go.RowKit Go.Proofs.Ytfjmlgclgmcjcaa.Row
open Pac (Pk bel_new Cel.later Cel.within)

theorem str_append (a b : List Byte) : str a ++ str b = str (a ++ b) := by
  apply ByteArray.ext
  rw [ByteArray.data_append]
  simp [str]

theorem str_size (a : List Byte) : (str a).size = a.length := by
  simp [str, ByteArray.size]

set_option maxRecDepth 100000 in
set_option maxHeartbeats 4000000 in
theorem partsPieces_walk (p : Pk) (a0 : Option Addr) (n0 c0 : Nat) (d : List Byte) (A : Option Addr) (L cap : Nat) (most : Int) (w : World) (hL : Hid (d.length = L)) (hd : Dt w w.heap.size d A cap) :
    Calls Try.prog 7 #[.agg #[.bool p.com, .bool p.sec, .int .i64 p.ap, .int .i64 p.fl, .int .i64 p.ct, .slice a0 n0 c0], .slice A L cap, .int .i64 most] w fun e w' => e = .returned (.bool true) ∧ Below w.heap.size w w' := by
  have y1 := Cel.new w 24 #[.bool p.com, .bool p.sec, .int .i64 p.ap, .int .i64 p.fl, .int .i64 p.ct, .slice a0 n0 c0]
  have b1 := bel_new w (.cells #[.bool p.com, .bool p.sec, .int .i64 p.ap, .int .i64 p.fl, .int .i64 p.ct, .slice a0 n0 c0] 24)
  have out : ∀ W, Below w.heap.size w W → Calls Try.prog 9 #[] W fun e w' => e = .returned (.bool true) ∧ Below w.heap.size w w' := fun W hW => (alive11_any W).mono fun _ _ ⟨h1, h2⟩ => ⟨h1, hW.trans (h2.mono hW.size)⟩
  by_cases hbig : 2000 < L
  · have g1 : decide ((2000 : Int) < (L : Int)) = true := by simp; omega
    have g2 : decide (2000 < L) = true := by simp; omega
    clear hbig hd y1
    go_enter Try.func7, Try.ntmps7
    go_wp2_with fail
    refine (out _ b1).mono ?_
    rintro e w1 ⟨rfl, h1⟩
    go_wp2
    go_ret
    exact ⟨rfl, h1⟩
  have g1 : decide ((2000 : Int) < (L : Int)) = false := by simp; omega
  have g2 : decide (2000 < L) = false := by simp; omega
  have hL2 : L ≤ 2000 := by omega
  have x1 := fun W hW => split_any p a0 n0 c0 d A cap most W hW (by have := hL.out; omega)
  clear hbig
  cases hok : spOk p L most with
  | false =>
    have hE : spE p L most = 1 := by unfold spE; rw [hok]; rfl
    have hP : spP p d most = [] := by unfold spP; rw [hL.out, hok]; rfl
    simp only [hL.out, hE, hP, List.length_nil] at x1
    have hno : ¬ ((0 ≤ p.ap ∧ p.ap ≤ 2046 ∧ 0 ≤ p.ct ∧ p.ct ≤ 16383) ∧ 1 ≤ most ∧ most ≤ 4090 ∧ 0 < L) := fun h => by rw [spOk_iff.2 h] at hok; cases hok
    have hcase : (((L : Int) == 0) = true ∧ (L == 0) = true) ∨ ((((L : Int) == 0) = false ∧ (L == 0) = false) ∧ (decide (most < 1) = true ∨ (decide (most < 1) = false ∧ (decide (4090 < most) = true ∨ (decide (4090 < most) = false ∧ (decide (p.ap < 0) = true ∨ (decide (p.ap < 0) = false ∧ (decide (2046 < p.ap) = true ∨ (decide (2046 < p.ap) = false ∧ (decide (p.ct < 0) = true ∨ (decide (p.ct < 0) = false ∧ decide (16383 < p.ct) = true))))))))))) := by
      simp only [decide_eq_true_eq, decide_eq_false_iff_not, beq_iff_eq, beq_eq_false_iff_ne, ne_eq]
      omega
    clear hE hP hok hno
    rcases hcase with ⟨k1, k1'⟩ | ⟨⟨k1, k1'⟩, k2 | ⟨k2, k3 | ⟨k3, k4 | ⟨k4, k5 | ⟨k5, k6 | ⟨k6, k7⟩⟩⟩⟩⟩⟩
    all_goals
      go_enter Try.func7, Try.ntmps7
      go_wp2_with fail
      refine (x1 _ ((hd.below b1).more b1.size)).mono ?_
      rintro e w2 ⟨A1, c1, rfl, _, b2⟩
      have y2 := Cel.later y1 b2
      have q2 := y2.cell 2
      have q4 := y2.cell 4
      simp at q2 q4
      have b3 := b1.trans (b2.mono b1.size)
      clear x1 b1 b2 hd y1 y2
      go_wp2_with fail
      refine (out _ b3).mono ?_
      rintro e w3 ⟨rfl, h1⟩
      go_wp2
      go_ret
      exact ⟨rfl, h1⟩
  | true =>
  obtain ⟨hp, hm1, hm2, h0⟩ := spOk_iff.1 hok
  obtain ⟨m, rfl⟩ : ∃ m : Nat, most = (m : Int) := ⟨most.toNat, by omega⟩
  have hm : 0 < m := by omega
  obtain ⟨K, hK⟩ : ∃ K, K = num L m := ⟨_, rfl⟩
  have hKL : K ≤ L := by rw [hK]; exact num_le hm
  have hE : spE p L (m : Int) = 0 := by unfold spE; rw [hok]; rfl
  have hP : spP p d (m : Int) = spl p d m := by unfold spP; rw [hL.out, hok]; rfl
  simp only [hL.out, hE, hP, spl_len, ← hK] at x1
  have HK := Lib.hid hK
  have HP := Lib.hid (And.intro hp (And.intro hm1 hm2))
  clear hE hP hok hK hp hm1 hm2
  go_enter Try.func7, Try.ntmps7
  go_wp2_with fail
  refine (x1 _ ((hd.below b1).more b1.size)).mono ?_
  rintro e w2 ⟨A1, c1, rfl, ps1, b2⟩
  have y2 := Cel.later y1 b2
  have b3 := b1.trans (b2.mono b1.size)
  clear x1 b1 b2 y1
  have hdn := hd.n
  have hdb := (hd.below b3).b
  clear hd
  go_wp2
  go_loopw [9, 10] (fun z i wr => ∃ (k : Nat), k ≤ K ∧ i = .int .i64 (k : Int) ∧ (∃ E, z = .string (str E) ∧ Hid (E = d.take (k * m))) ∧ Below w2.heap.size w2 wr)
    (fun _ i _ => K - (intOf i).toNat)
  case atStart => exact ⟨0, Nat.zero_le _, rfl, ⟨[], rfl, Lib.hid (by simp)⟩, Below.refl _ _⟩
  case round =>
    obtain ⟨k, hk, rfl, ⟨E, rfl, hE⟩, hB⟩ := hrel
    by_cases hkK : k < K
    · have hqk := spl_at (p := p) (d := d) (m := m) (i := k) (by rw [hL.out, ← HK.out]; exact hkK)
      obtain ⟨b, off, a, c, rfl, _⟩ := ps1.at_ hqk
      obtain ⟨LQ, hLQ⟩ : ∃ LQ, LQ = (fin p d m k).d.length := ⟨_, rfl⟩
      obtain ⟨a, c, K0⟩ := ps1.pk hqk hLQ.symm rfl
      obtain ⟨hzb, v0, v1, v2, u3, v4, u5, du⟩ := K0.below hB
      obtain ⟨F, hF⟩ : ∃ F, F = (fin p d m k).fl := ⟨_, rfl⟩
      obtain ⟨C, hC⟩ : ∃ C, C = (p.ct + (k : Int)) % 16384 := ⟨_, rfl⟩
      have e3 : (p.ct + (k : Int)).tmod 16384 = C := by rw [hC]; exact Int.tmod_eq_emod_of_nonneg (by have := HP.out.1; omega)
      have hcb : 0 ≤ p.ct ∧ p.ct ≤ 16383 := by have := HP.out.1; omega
      have u0 : wr.cell? ⟨b, off + k * 6, none⟩ = some (.bool p.com) := v0
      have u1 : wr.cell? ⟨b, off + k * 6 + 1, none⟩ = some (.bool p.sec) := v1
      have u2 : wr.cell? ⟨b, off + k * 6 + 2, none⟩ = some (.int .i64 p.ap) := v2
      rw [← hF] at u3
      have u4 : wr.cell? ⟨b, off + k * 6 + 4, none⟩ = some (.int .i64 C) := by rw [hC]; exact v4
      clear v0 v1 v2 v4
      have i0 : (0 : Int) ≤ (k : Int) := Int.natCast_nonneg _
      have i1 : (k : Int) < (K : Int) := by omega
      have hkm : k * m < L := by have := (num_lt (L := L) (k := k) hm).1 (by rw [← HK.out]; exact hkK); exact this
      have hlen : LQ = min m (L - k * m) := by rw [hLQ]; show (piece d m k).length = _; rw [piece_len, hL.out]
      have t1 : decide ((LQ : Int) < 1) = false := by simp; omega
      have t1' : decide (LQ < 1) = false := by simp; omega
      have t2 : decide ((m : Int) < (LQ : Int)) = false := by simp; omega
      have t2' : decide (m < LQ) = false := by simp; omega
      have hor : (decide ((LQ : Int) < (m : Int)) = false ∧ decide (LQ < m) = false) ∨ (decide ((LQ : Int) < (m : Int)) = true ∧ decide (LQ < m) = true ∧ decide ((k : Int) < (K : Int) - 1) = false) := by
        have h1 := num_lt (L := L) (k := k + 1) hm
        rw [← HK.out, Nat.succ_mul] at h1
        simp only [decide_eq_true_eq, decide_eq_false_iff_not]
        omega
      have y3 := Cel.later y2 hB
      have q0 := y3.cell 0
      have q1 := y3.cell 1
      have q2 := y3.cell 2
      have q4 := y3.cell 4
      simp at q0 q1 q2 q4
      have n0 : (p.ap != p.ap) = false := by simp
      have n1 : (p.com != p.com) = false := by simp
      have n2 : (p.sec != p.sec) = false := by simp
      have n3 : (C != C) = false := by simp
      have b4 := bel_new wr (.cells #[.bool p.com, .bool p.sec, .int .i64 p.ap, .int .i64 F, .int .i64 C, .slice a LQ c] 24)
      have y4 := Cel.new wr 24 #[.bool p.com, .bool p.sec, .int .i64 p.ap, .int .i64 F, .int .i64 C, .slice a LQ c]
      have hrl : piece d m k = (fin p d m k).d := rfl
      have b5 := hB.trans (b4.mono hB.size)
      have s1 := run_str (P := Try.prog) (wr.alloc (.cells #[.bool p.com, .bool p.sec, .int .i64 p.ap, .int .i64 F, .int .i64 C, .slice a LQ c] 24)) is_bytes Try.underlying9 ((K0.below b5).d.b) (K0.d.n)
      rw [← hLQ, ← hrl] at s1
      obtain ⟨D, hD⟩ : ∃ D, D = piece d m k := ⟨_, rfl⟩
      have hcat := str_append E D
      obtain ⟨E2, hE2⟩ : ∃ E2, E2 = E ++ D := ⟨_, rfl⟩
      rw [← hE2] at hcat
      have hsz : ¬ (9223372036854775807 < (str E).size + (str D).size) := by
        rw [str_size, str_size, hE.out, hD, List.length_take, piece_len, hL.out]
        omega
      have hEn : Hid (E2 = d.take ((k + 1) * m)) := Lib.hid (by rw [hE2, hD, hE.out, take_piece])
      rw [← hD] at s1
      obtain ⟨W3, hW3⟩ : ∃ W3, W3 = wr.alloc (.cells #[.bool p.com, .bool p.sec, .int .i64 p.ap, .int .i64 F, .int .i64 C, .slice a LQ c] 24) := ⟨_, rfl⟩
      have y5 := Cel.later y3 b4
      rw [← hW3] at y4 y5 b5 s1
      have q0' := y5.cell 0
      have q1' := y5.cell 1
      have q2' := y5.cell 2
      have q4' := y5.cell 4
      have r0 := y4.cell 0
      have r1 := y4.cell 1
      have r2 := y4.cell 2
      have r4 := y4.cell 4
      have r5 := y4.cell 5
      simp at q0' q1' q2' q4' r0 r1 r2 r4 r5
      have HB5 := Lib.hid b5
      clear hqk hLQ hF hC hlen hD hE2 hE hkm K0 du hrl y3 y4 y5 b4 b5 hB
      go_upto_region 11 with fail
      rw [← hW3]
      clear hW3 q0 q1 q2 q4 u0 u1 u2 u3 u4 u5
      rcases hor with ⟨o1, o2⟩ | ⟨o1, o2, o3⟩
      all_goals
        go_wp2
        go_round
        case measure => simp only [intOf]; omega
        case rel => exact ⟨k + 1, hkK, rfl, ⟨E2, by rw [← hcat], hEn⟩, HB5.out⟩
    · have hkK' : k = K := by omega
      have hal := out _ (b3.trans (hB.mono b3.size))
      have hEd : E = d := by rw [hE.out, hkK', HK.out, ← hL.out]; exact take_all hm
      subst hEd
      have s2 := run_str (P := Try.prog) wr is_bytes Try.underlying9 (hdb.below (hB.mono b3.size)) hdn
      rw [hL.out] at s2
      have n0 : ((str E).toList == (str E).toList) = true := by simp
      subst hkK'
      clear hkK
      go_wp2_with fail
      refine hal.mono ?_
      rintro e w6 ⟨rfl, b6⟩
      go_wp2
      go_ret
      exact ⟨rfl, b6⟩
end Go.Proofs.Ytfjmlgclgmcjcaa.Par
