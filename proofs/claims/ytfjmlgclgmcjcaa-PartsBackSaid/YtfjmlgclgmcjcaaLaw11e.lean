/-
  The walk of the law PartsBack.
-/
import Derived.Test.YtfjmlgclgmcjcaaLaw11a
import Derived.Test.YtfjmlgclgmcjcaaLater
namespace Go.Proofs.Ytfjmlgclgmcjcaa.Par
open Go.RowKit Go.Proofs.Ytfjmlgclgmcjcaa.Row
open Pac (Pk bel_new Cel.later Cel.within)

theorem stt_zero (p : Pk) (d : List Byte) (m : Nat) (s : JS) (most : Int) (h : s.most = most) : stt p d m most 0 s := ⟨h, fun h => absurd h (by decide)⟩
theorem stt_len_le {p : Pk} {d : List Byte} {m i : Nat} {most : Int} {s : JS} (h : stt p d m most i s) (K : Nat) (h0 : i = 0 → s.msg.length ≤ K) : s.msg.length ≤ K + d.length := by
  rcases Nat.eq_zero_or_pos i with e | e
  · have := h0 e; omega
  · rw [(h.2 e).1, List.length_take]; omega

set_option maxRecDepth 100000 in
set_option maxHeartbeats 4000000 in
theorem partsBack_walk (p : Pk) (a0 : Option Addr) (n0 c0 : Nat) (d : List Byte) (A : Option Addr) (L cap : Nat) (most : Int) (F : Option Addr) (N cf : Nat) (l : List Pk) (w : World) (hL : Hid (d.length = L)) (hd : Dt w w.heap.size d A cap) (hN : Hid (l.length = N)) (hps : PS w w.heap.size F l) :
    Calls Try.prog 5 #[.agg #[.bool p.com, .bool p.sec, .int .i64 p.ap, .int .i64 p.fl, .int .i64 p.ct, .slice a0 n0 c0], .slice A L cap, .int .i64 most, .slice F N cf] w fun e w' => e = .returned (.bool true) ∧ Below w.heap.size w w' := by
  have y1 := Cel.new w 24 #[.bool p.com, .bool p.sec, .int .i64 p.ap, .int .i64 p.fl, .int .i64 p.ct, .slice a0 n0 c0]
  have b1 := bel_new w (.cells #[.bool p.com, .bool p.sec, .int .i64 p.ap, .int .i64 p.fl, .int .i64 p.ct, .slice a0 n0 c0] 24)
  have out : ∀ W, Below w.heap.size w W → Calls Try.prog 9 #[] W fun e w' => e = .returned (.bool true) ∧ Below w.heap.size w w' := fun W hW => (alive11_any W).mono fun _ _ ⟨h1, h2⟩ => ⟨h1, hW.trans (h2.mono hW.size)⟩
  by_cases hbig : 2000 < L
  · have g1 : decide ((2000 : Int) < (L : Int)) = true := by simp; omega
    have g2 : decide (2000 < L) = true := by simp; omega
    clear hbig hd y1 hps
    go_enter Try.func5, Try.ntmps5
    go_wp2_with fail
    refine (out _ b1).mono ?_
    rintro e w1 ⟨rfl, h1⟩
    go_wp2
    go_ret
    exact ⟨rfl, h1⟩
  have g1 : decide ((2000 : Int) < (L : Int)) = false := by simp; omega
  have g2 : decide (2000 < L) = false := by simp; omega
  by_cases hbig2 : 20 < N
  · have g3 : decide ((20 : Int) < (N : Int)) = true := by simp; omega
    have g4 : decide (20 < N) = true := by simp; omega
    clear hbig hbig2 hd y1 hps
    go_enter Try.func5, Try.ntmps5
    go_wp2_with fail
    refine (out _ b1).mono ?_
    rintro e w1 ⟨rfl, h1⟩
    go_wp2
    go_ret
    exact ⟨rfl, h1⟩
  have g3 : decide ((20 : Int) < (N : Int)) = false := by simp; omega
  have g4 : decide (20 < N) = false := by simp; omega
  have hL2 : L ≤ 2000 := by omega
  have hN2 : N ≤ 20 := by omega
  have x1 := fun W hW => split_any p a0 n0 c0 d A cap most W hW (by have := hL.out; omega)
  clear hbig hbig2
  cases hok : spOk p L most with
  | false =>
    have hE : spE p L most = 1 := by unfold spE; rw [hok]; rfl
    have hP : spP p d most = [] := by unfold spP; rw [hL.out, hok]; rfl
    simp only [hL.out, hE, hP, List.length_nil] at x1
    clear hE hP hok hps
    go_enter Try.func5, Try.ntmps5
    go_wp2_with fail
    refine (x1 _ ((hd.below b1).more b1.size)).mono ?_
    rintro e w2 ⟨A1, c1, rfl, _, b2⟩
    have b3 := b1.trans (b2.mono b1.size)
    clear x1 b1 b2 hd y1
    go_wp2_with fail
    refine (out _ b3).mono ?_
    rintro e w3 ⟨rfl, h1⟩
    go_wp2
    go_ret
    exact ⟨rfl, h1⟩
  | true =>
  obtain ⟨hp, hm1, hm2, h0⟩ := spOk_iff.1 hok
  obtain ⟨m, rfl⟩ : ∃ m : Nat, most = (m : Int) := ⟨most.toNat, by omega⟩
  have hm : 0 < m := by omega
  obtain ⟨K, hK⟩ : ∃ K, K = num L m := ⟨_, rfl⟩
  have hK0 : 0 < K := by rw [hK]; exact num_pos hm h0
  have hKL : K ≤ L := by rw [hK]; exact num_le hm
  have hE : spE p L (m : Int) = 0 := by unfold spE; rw [hok]; rfl
  have hP : spP p d (m : Int) = spl p d m := by unfold spP; rw [hL.out, hok]; rfl
  simp only [hL.out, hE, hP, spl_len, ← hK] at x1
  have HK := Lib.hid hK
  have HP := Lib.hid (And.intro hp (And.intro hm1 hm2))
  clear hE hP hok hK hp hm1 hm2
  go_enter Try.func5, Try.ntmps5
  go_wp2_with fail
  refine (x1 _ ((hd.below b1).more b1.size)).mono ?_
  rintro e w2 ⟨A1, c1, rfl, ps1, b2⟩
  have b3 := b1.trans (b2.mono b1.size)
  clear x1 b1 b2 y1
  obtain ⟨hd, hps⟩ := And.intro (hd.below b3) (hps.below b3)
  have hnew := JP.new (B := w2.heap.size) (w0 := w2) (w := w2) (L : Int) (by omega) (Below.refl _ _) (Nat.le_refl _)
  rw [show max (L : Int) 0 = (L : Int) by omega] at hnew
  go_wp2_with fail
  refine hnew.mono ?_
  rintro e w3 ⟨rfl, j3⟩
  clear hnew
  go_wp2
  go_loopw [12] (fun i wr => ∃ (k : Nat) (s : JS), k ≤ N ∧ i = .int .i64 (k : Int) ∧ s.msg.length ≤ 4100 * k ∧ s.most = (L : Int) ∧ JP w2.heap.size w2 wr w2.heap.size s)
    (fun i _ => N - (intOf i).toNat)
  case atStart => exact ⟨0, _, Nat.zero_le _, rfl, by simp, rfl, j3⟩
  case round =>
    clear j3
    obtain ⟨k, s, hk, rfl, hsl, hsm, P0⟩ := hrel
    by_cases hkN : k < N
    · obtain ⟨q, hq⟩ : ∃ q, l[k]? = some q := ⟨_, List.getElem?_eq_getElem (by have := hN.out; omega)⟩
      obtain ⟨b, off, a, c, rfl, _⟩ := hps.at_ hq
      obtain ⟨LQ, hLQ⟩ : ∃ LQ, LQ = q.d.length := ⟨_, rfl⟩
      obtain ⟨a, c, K0⟩ := hps.pk hq hLQ.symm rfl
      have HL := Lib.hid hLQ
      clear hLQ hq
      have hBB := P0.be.size
      have K1 := K0.below (P0.be.mono b3.size)
      obtain ⟨hzb, u0, u1, u2, u3, u4, u5, du⟩ := K1
      have i0 : (0 : Int) ≤ (k : Int) := Int.natCast_nonneg _
      have i1 : (k : Int) < (N : Int) := by omega
      by_cases hq41 : 4100 < LQ
      · have t1 : decide ((4100 : Int) < (LQ : Int)) = true := by simp; omega
        have t2 : decide (4100 < LQ) = true := by simp; omega
        have hal := out _ (b3.trans (P0.be.mono b3.size))
        clear P0 hq41 du K0
        go_wp2_with fail
        refine hal.mono ?_
        rintro e w6 ⟨rfl, b6⟩
        go_wp2
        go_ret
        exact ⟨rfl, b6⟩
      have t1 : decide ((4100 : Int) < (LQ : Int)) = false := by simp; omega
      have t2 : decide (4100 < LQ) = false := by simp; omega
      have ht := P0.take hBB (p := q) (n := LQ) HL.out.symm (du.more (by have := b3.size; omega)) (by rw [← HL.out]; omega) rfl rfl rfl rfl
      have hln := tkS_len s q
      have hmo := tkS_most s q
      rw [← HL.out] at hln
      obtain ⟨S', hS'⟩ : ∃ S', tkS s q = S' := ⟨_, rfl⟩
      obtain ⟨B', hB'⟩ : ∃ B', tkB s q = B' := ⟨_, rfl⟩
      obtain ⟨E', hE'⟩ : ∃ E', tkE s q = E' := ⟨_, rfl⟩
      obtain ⟨M', hM'⟩ : ∃ M', tkM s q = M' := ⟨_, rfl⟩
      rw [hS'] at hln hmo
      rw [hS', hB', hE', hM'] at ht
      have HP0 := Lib.hid P0
      clear P0 hS' hB' hE' hM' du
      go_wp2_with fail
      refine ht.mono ?_
      rintro e w6 ⟨m6, rfl, o6, j6, _⟩
      have J6 := Lib.hid j6
      have HH := Lib.hid (And.intro hln (And.intro hmo hsm))
      clear ht o6 j6 hln hmo hsm
      go_wp2
      go_round
      case measure => simp only [intOf]; omega
      case rel => exact ⟨k + 1, S', hkN, rfl, by have := HH.out.1; omega, HH.out.2.1.trans HH.out.2.2, J6.out⟩
    · have hkN' : k = N := by omega
      subst hkN'
      clear hkN
      have hB3 := b3.size
      have hPB := P0.be.size
      have hrr := b3.trans (P0.be.mono b3.size)
      obtain ⟨wa, hwa⟩ : ∃ wa, wa = wr := ⟨_, rfl⟩
      rw [← hwa] at P0 ⊢
      clear hwa
      have HP0 := Lib.hid (And.intro P0 (And.intro hsl hsm))
      clear P0 hsl hsm
      go_wp2
      go_loopw [13, 14, 15, 16] (fun i _ _ _ wr => ∃ (k : Nat) (s : JS), k ≤ K ∧ i = .int .i64 (k : Int) ∧ (k = 0 → s.msg.length ≤ 82000) ∧ (k < K → stt p d m (L : Int) k s) ∧ (k = K → s.msg = []) ∧ JP w2.heap.size w2 wr w2.heap.size s)
        (fun i _ _ _ _ => K - (intOf i).toNat)
      case atStart => exact ⟨0, s, Nat.zero_le _, rfl, fun _ => by have := HP0.out.2.1; omega, fun _ => stt_zero _ _ _ _ _ HP0.out.2.2, fun h => by omega, HP0.out.1⟩
      case round =>
        clear HP0
        obtain ⟨k, s, hk, rfl, hs0, hst, hs9, P0⟩ := hrel
        by_cases hkK : k < K
        · have hqk := spl_at (p := p) (d := d) (m := m) (i := k) (by rw [hL.out, ← HK.out]; exact hkK)
          obtain ⟨b, off, a, c, rfl, _⟩ := ps1.at_ hqk
          obtain ⟨LQ, hLQ⟩ : ∃ LQ, LQ = (fin p d m k).d.length := ⟨_, rfl⟩
          obtain ⟨a, c, K0⟩ := ps1.pk hqk hLQ.symm rfl
          have hBB := P0.be.size
          obtain ⟨hzb, u0, u1, u2, u3, u4, u5, du⟩ := K0.below P0.be
          have i0 : (0 : Int) ≤ (k : Int) := Int.natCast_nonneg _
          have i1 : (k : Int) < (K : Int) := by omega
          have hst' := hst hkK
          rw [← hL.out] at hst'
          obtain ⟨v1, v2, v3, v4, v5⟩ := back_step hm HP.out.1 hst' (by rw [hL.out, ← HK.out]; exact hkK)
          have hLd : LQ ≤ L := by rw [hLQ]; show (piece d m k).length ≤ L; rw [piece_len, hL.out]; omega
          have hsl := stt_len_le hst' 82000 hs0
          rw [hL.out] at hsl
          rw [hL.out, ← HK.out] at v2 v3 v4 v5
          obtain ⟨S', hS'⟩ : ∃ S', tkS s (fin p d m k) = S' := ⟨_, rfl⟩
          rw [hS'] at v4 v5
          have hda := (hd.below (P0.be.mono b3.size)).b
          have hdn := hd.n
          by_cases hlast : k + 1 = K
          · rw [decide_eq_true hlast] at v2
            rw [if_pos hlast] at v3
            have ht := P0.take hBB (n := LQ) hLQ.symm (du.more hBB) (by rw [← hLQ]; omega) v2 v1 v3 hS'
            have w1' : ((k : Int) == (K : Int) - 1) = true := by simp; omega
            have HP0 := Lib.hid (And.intro P0 (And.intro v4 (And.intro v5 hlast)))
            obtain ⟨q, hq⟩ : ∃ q, q = fin p d m k := ⟨_, rfl⟩
            rw [← hq] at ht u0 u1 u2 u3 u4
            clear P0 v1 v2 v3 v4 v5 hst hst' hs0 hs9 hsl hS' hLQ hqk hq du hlast
            go_wp2_with fail
            refine ht.mono ?_
            rintro e w6 ⟨m6, rfl, o6, j6, hz6⟩
            obtain ⟨A6, c6, rfl, r6, n6, _⟩ := o6.reads_len (n := L) hL.out
            have s1 := run_str (P := Try.prog) w6 is_bytes Try.underlying9 r6 n6
            have s2 := run_str (P := Try.prog) w6 is_bytes Try.underlying9 ((hd.below (j6.be.mono b3.size)).b) hdn
            rw [hL.out] at s1 s2
            have e1 : ((str d).toList != (str d).toList) = false := by simp
            have J6 := Lib.hid j6
            clear ht o6 j6 r6 hda
            go_wp2
            go_round
            case measure => simp only [intOf]; omega
            case rel => exact ⟨k + 1, S', hkK, rfl, fun h => by omega, fun h => by have := HP0.out.2.2.2; omega, fun _ => HP0.out.2.1 HP0.out.2.2.2, J6.out⟩
          · rw [decide_eq_false hlast] at v2
            rw [if_neg hlast] at v3
            have ht := P0.take hBB (n := LQ) hLQ.symm (du.more hBB) (by rw [← hLQ]; omega) v2 v1 v3 hS'
            have w1' : ((k : Int) == (K : Int) - 1) = false := by simp; omega
            have HP0 := Lib.hid (And.intro P0 (And.intro v4 (And.intro v5 hlast)))
            obtain ⟨q, hq⟩ : ∃ q, q = fin p d m k := ⟨_, rfl⟩
            rw [← hq] at ht u0 u1 u2 u3 u4
            clear P0 v1 v2 v3 v4 v5 hst hst' hs0 hs9 hsl hS' hLQ hqk hq du hlast
            go_wp2_with fail
            refine ht.mono ?_
            rintro e w6 ⟨m6, rfl, o6, j6, hz6⟩
            obtain ⟨A6, c6, rfl, r6, n6, _⟩ := o6.reads_len (n := 0) rfl
            have J6 := Lib.hid j6
            clear ht o6 j6 r6 hda
            go_wp2
            go_round
            case measure => simp only [intOf]; omega
            case rel => exact ⟨k + 1, S', hkK, rfl, fun h => by omega, fun _ => HP0.out.2.2.1 HP0.out.2.2.2, fun h => absurd h HP0.out.2.2.2, J6.out⟩
        · have hkK' : k = K := by omega
          have hpe := P0.pending (n := 0) (by rw [hs9 hkK']; rfl)
          have hal := out _ (b3.trans (P0.be.mono b3.size))
          have t1 : ((0 : Int) < (K : Int)) := by omega
          subst hkK'
          clear P0 hst hs0 hs9 hkK
          go_wp2_with fail
          refine hpe.mono ?_
          rintro e w6 ⟨rfl, rfl⟩
          go_wp2_with fail
          refine hal.mono ?_
          rintro e w6 ⟨rfl, b6⟩
          go_wp2
          go_ret
          exact ⟨rfl, b6⟩
end Go.Proofs.Ytfjmlgclgmcjcaa.Par
