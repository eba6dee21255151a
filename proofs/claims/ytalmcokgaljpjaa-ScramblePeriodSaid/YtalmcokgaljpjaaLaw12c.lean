/-
  The walk of the law ScramblePeriod.
-/
import Derived.Test.YtalmcokgaljpjaaLaw12a
import Derived.Test.YtalmcokgaljpjaaLater
import Derived.Deep.QuietTactic
import Derived.BigQuiet
import Derived.BigRegion
namespace Go.Proofs.Ytalmcokgaljpjaa.Scr
open Go.RowKit

theorem conv_lat {w : World} {A : Option Addr} {l : List Byte} {n c : Nat} (hl : l.length = n) (hb : Bs w w.heap.size A l) (hn : A = none → c = 0) (p : Later w) :
    (convert 23 9 (.slice A n c)).run Try.prog p.W = .ok (.string (str l)) p.W := conv_at p.W hl (hb.below p.h) hn
theorem shr_bit (y : Byte) (u : Nat) : ((y.toNat : Int) / 2 ^ u).tmod 2 = ((y.toNat / 2 ^ u % 2 : Nat) : Int) := by
  rw [show (y.toNat : Int) / 2 ^ u = ((y.toNat / 2 ^ u : Nat) : Int) by rw [Int.natCast_ediv, Int.natCast_pow]; rfl]
  generalize y.toNat / 2 ^ u = v
  rw [Int.tmod_eq_emod_of_nonneg (by omega)]
  omega

set_option maxRecDepth 100000 in
set_option maxHeartbeats 4000000 in
theorem scramblePeriod_walk (n m : BitVec 16) (w : World) :
    Calls Try.prog 6 #[.int .u16 (n.toNat : Int), .int .u16 (m.toNat : Int)] w fun e w' => e = .returned (.bool true) ∧ Below w.heap.size w w' := by
  obtain ⟨P, hP⟩ : ∃ P, P = n.toNat % 2000 := ⟨_, rfl⟩
  obtain ⟨Q, hQ⟩ : ∃ Q, Q = m.toNat % 2000 := ⟨_, rfl⟩
  have p1 : (n.toNat : Int) % 2000 = (P : Int) := by omega
  have q1 : (m.toNat : Int) % 2000 = (Q : Int) := by omega
  have p2 : P < 2000 := by omega
  have q2 : Q < 2000 := by omega
  obtain ⟨T, hT⟩ : ∃ T, T = P + Q := ⟨_, rfl⟩
  have t1 : (P : Int) + (Q : Int) = (T : Int) := by omega
  have t2 : T < 4000 := by omega
  have x1 := fun W => sequence_any (T : Int) (by omega) W
  have x2 := fun W => sequence_any (P : Int) (by omega) W
  simp only [Int.toNat_natCast] at x1 x2
  have HT := Lib.hid hT
  clear hP hQ hT
  go_enter Try.func6, Try.ntmps6
  go_wp2_with fail
  refine (x1 _).mono ?_
  rintro e w1 ⟨v1, rfl, o1, b1⟩
  obtain ⟨A1, c1, rfl, hA1, hn1, hc1, _⟩ := o1.reads_len (seqb_len T)
  go_wp2_with fail
  refine (x2 _).mono ?_
  rintro e w2 ⟨v2, rfl, o2, b2⟩
  obtain ⟨A2, c2, rfl, hA2, hn2, _⟩ := o2.reads_len (seqb_len P)
  have bel2 := b1.trans (b2.mono b1.size)
  have hB1 := (hA1.below b2).more b2.size
  have hBt := hB1.take P
  rw [seqb_take (by have := HT.out; omega)] at hBt
  clear x1 x2 o1 o2 b1 b2 hA1
  go_wp2_with fail
  have PT : P ≤ T := by have := HT.out; omega
  have Pc : P ≤ c1 := by omega
  have Pc' : (P : Int) ≤ (c1 : Int) := by omega
  have u1 : ((T : Int) != (T : Int)) = false := by simp
  have u2 : ((P : Int) != (P : Int)) = false := by simp
  have e1 : ((str (seqb P)).toList != (str (seqb P)).toList) = false := by simp
  have s1 : ∀ p : Later w2, (convert 23 9 (.slice A1 P c1)).run Try.prog p.W = .ok (.string (str (seqb P))) p.W := conv_lat (seqb_len P) hBt hn1
  have s2 : ∀ p : Later w2, (convert 23 9 (.slice A2 P c2)).run Try.prog p.W = .ok (.string (str (seqb P))) p.W := conv_lat (seqb_len P) hA2 hn2
  obtain ⟨S, hS⟩ : ∃ S, S = str (seqb P) := ⟨_, rfl⟩
  rw [← hS] at e1 s1 s2
  clear hS hBt hA2 hn2
  refine wp_region_later (by kernel_rfl) (by kernel_rfl) ?_
  repeat (go_big_quiet_step (fail))
  refine wpQuiet_nil ?_
  rintro w3 ⟨p3, hp3⟩
  have b3 : Below w2.heap.size w2 w3 := by rw [hp3]; exact p3.h
  clear hp3 p3
  have bel3 := bel2.trans (b3.mono bel2.size)
  go_wp2_with fail
  have hB3 := (hB1.below b3).more b3.size
  clear hB1 b3 bel2 s1 s2 e1 u1 u2 PT Pc Pc' hn1 p1 q1
  go_loopw [9] (fun i wr => ∃ k : Nat, i = .int .i64 (k : Int) ∧ 255 ≤ k ∧ k ≤ 4255 ∧ Below w3.heap.size w3 wr) (fun i _ => 4255 - (intOf i).toNat)
  case atStart => exact ⟨255, rfl, by omega, by omega, Below.refl _ _⟩
  case round =>
    obtain ⟨k, rfl, hk1, hk2, hbel⟩ := hrel
    by_cases hkT : k < T
    · have k1 : (k : Int) < (T : Int) := by omega
      obtain ⟨j, hj⟩ : ∃ j, k = j + 255 := ⟨k - 255, by omega⟩
      have d1 : (k : Int) - 255 = (j : Int) := by omega
      have d2 : j < T := by omega
      have hB4 := hB3.below hbel
      obtain ⟨b, off, rfl, _, hc1⟩ := hB4.at_ (k := k) (by rw [seqb_len]; exact hkT)
      obtain ⟨b', off', he, _, hc2⟩ := hB4.at_ (k := j) (by rw [seqb_len]; exact d2)
      injection he with he
      injection he with h1 h2
      subst h1 h2
      rw [seqb_get, hj, sq_period, ← hj] at hc1
      rw [seqb_get] at hc2
      obtain ⟨X, hX⟩ : ∃ X, sq j = X := ⟨_, rfl⟩
      rw [hX] at hc1 hc2
      have t3 : ((X.toNat : Int) != (X.toNat : Int)) = false := by simp
      clear hX hj hB4
      go_wp2_with fail
      go_quiet (fail)
      go_wp2_with fail
      go_roundw
      case rel => exact ⟨k + 1, by go_num, by omega, by omega, hbel.trans (drewN_below wr _)⟩
      case measure => simp [intOf]; omega
    · have k1 : ¬ (k : Int) < (T : Int) := by omega
      have bel4 := bel3.trans (hbel.mono bel3.size)
      have hB4 := (hB3.below hbel).more hbel.size
      clear hB3 hk1 hk2 bel3 hbel
      go_wp2_with fail
      go_loopw [10] (fun i wr2 => ∃ k : Nat, i = .int .i64 (k : Int) ∧ 255 ≤ k ∧ k ≤ 32255 ∧ Below wr.heap.size wr wr2) (fun i _ => 32255 - (intOf i).toNat)
      case atStart => exact ⟨255, rfl, by omega, by omega, Below.refl _ _⟩
      case round =>
        obtain ⟨i, rfl, hk1, hk2, hbel⟩ := hrel
        by_cases hkT : i < 8 * T
        · have k1 : (i : Int) < 8 * (T : Int) := by omega
          obtain ⟨j, hj⟩ : ∃ j, i = j + 255 := ⟨i - 255, by omega⟩
          have d1 : (i : Int) - 255 = (j : Int) := by omega
          obtain ⟨q, hq⟩ : ∃ q, q = i / 8 := ⟨_, rfl⟩
          obtain ⟨r, hr⟩ : ∃ r, r = i % 8 := ⟨_, rfl⟩
          obtain ⟨q', hq'⟩ : ∃ q', q' = j / 8 := ⟨_, rfl⟩
          obtain ⟨r', hr'⟩ : ∃ r', r' = j % 8 := ⟨_, rfl⟩
          have d2 : (i : Int) / 8 = (q : Int) := by omega
          have d3 : (i : Int) % 8 = (r : Int) := by omega
          have d4 : (j : Int) / 8 = (q' : Int) := by omega
          have d5 : (j : Int) % 8 = (r' : Int) := by omega
          have d6 : q < T := by omega
          have d7 : q' < T := by omega
          obtain ⟨u, hu⟩ : ∃ u, u = 7 - r := ⟨_, rfl⟩
          obtain ⟨u', hu'⟩ : ∃ u', u' = 7 - r' := ⟨_, rfl⟩
          have d8 : (7 : Int) - (r : Int) = (u : Int) := by omega
          have d9 : (7 : Int) - (r' : Int) = (u' : Int) := by omega
          have hB5 := hB4.below hbel
          obtain ⟨b, off, rfl, _, hc1⟩ := hB5.at_ (k := q) (by rw [seqb_len]; exact d6)
          obtain ⟨b', off', he, _, hc2⟩ := hB5.at_ (k := q') (by rw [seqb_len]; exact d7)
          injection he with he
          injection he with h1 h2
          subst h1 h2
          rw [seqb_get] at hc1 hc2
          have hb1 := byte_bit q r (by omega)
          have hb2 := byte_bit q' r' (by omega)
          rw [show 8 * q + r = i by omega, ← hu, hj, bit_period] at hb1
          rw [show 8 * q' + r' = j by omega, ← hu'] at hb2
          have hs1 := shr_bit (sq q) u
          have hs2 := shr_bit (sq q') u'
          rw [hb1] at hs1
          rw [hb2] at hs2
          clear hb1 hb2
          obtain ⟨X, hX⟩ : ∃ X, sq q = X := ⟨_, rfl⟩
          obtain ⟨X', hX'⟩ : ∃ X', sq q' = X' := ⟨_, rfl⟩
          rw [hX] at hs1 hc1
          rw [hX'] at hs2 hc2
          obtain ⟨Bt, hBt⟩ : ∃ Bt, bit j = Bt := ⟨_, rfl⟩
          rw [hBt] at hs1 hs2
          have t3 : (Bt != Bt) = false := by simp
          have HU := Lib.hid (And.intro hu hu')
          have HJ := Lib.hid hj
          have z1 : u < 8 := by omega
          have z2 : u' < 8 := by omega
          clear hBt hX hX' hj hq hr hq' hr' hu hu' hB5 k1
          go_wp2_with fail
          go_quiet (fail)
          go_wp2_with fail
          go_roundw
          case rel => exact ⟨i + 1, by go_num, by omega, by omega, hbel.trans (drewN_below wr _)⟩
          case measure => simp [intOf]; omega
        · have k1 : ¬ (i : Int) < 8 * (T : Int) := by omega
          have bel5 := bel4.trans (hbel.mono bel4.size)
          go_wp2_with (go_at_call 7; refine (lives_any _).mono ?_; rintro e w9 ⟨rfl, b9⟩)
          go_ret
          exact ⟨rfl, bel5.trans (b9.mono bel5.size)⟩
end Go.Proofs.Ytalmcokgaljpjaa.Scr
