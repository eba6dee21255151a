/-
  The walk of the law BitsSplits; two Writers side by side.
-/
import Derived.Test.YtgomkhllhpghmabLives02
namespace Go.Proofs.Ytgomkhllhpghmab
open Go.RowKit

theorem WAt.off {w : World} {base base' g g' : Nat} {r r' : Option Nat} {L M : List Bool} (h : WAt w base g r L) (k : WAt w base' g' r' M) : r ≠ some g' := by
  obtain ⟨v, bs, fr, _, ho, rfl, _⟩ := h
  obtain ⟨_, _, _, hc, _⟩ := k
  exact ho.apart hc (by decide)

theorem put_two {w wr : World} {base g g2 : Nat} {r r2 : Option Nat} {L L' M : List Bool} (h1 : WAt w base g r L) (h2 : WAt w base g2 r2 M) (hg : g ≠ g2) (hd : ∀ i, r = some i → r2 ≠ some i) (hP : PutAt w base g r L' wr) :
    ∃ r', WAt wr base g r' L' ∧ WAt wr base g2 r2 M ∧ ∀ i, r' = some i → r2 ≠ some i := by
  obtain ⟨r', hW, hr', hO⟩ := hP
  have n1 := h1.off h2
  have n2 := h2.off h1
  refine ⟨r', hW, h2.only hO ?_ ?_, ?_⟩
  · intro hx
    rcases List.mem_cons.1 hx with e | e
    · exact hg e.symm
    · exact n1 (by simpa using e)
  · intro i hi hx
    rcases List.mem_cons.1 hx with e | e
    · exact n2 (by rw [hi, e])
    · exact hd i (by simpa using e) hi
  · intro i hi h2i
    rcases hr' with e | ⟨j, e, hj⟩
    · exact hd i (by rw [← e]; exact hi) h2i
    · have := h2.row i h2i
      rw [hi] at e
      injection e with e
      omega

theorem bitsOf_split (n a b : Nat) : bitsOf (n / 2 ^ b) a ++ bitsOf n b = bitsOf n (a + b) := (bitsOf_add n a b).symm

theorem lives_end {w w1 : World} (hb : Below w.heap.size w w1) : Calls Try.prog 10 #[] w1 fun e w' => e = .returned (.bool true) ∧ Below w.heap.size w w' :=
  (lives_any w1).mono fun _ _ ⟨h1, h2⟩ => ⟨h1, hb.trans (h2.mono hb.size)⟩

set_option maxHeartbeats 4000000 in
theorem bitsSplits_walk (n : BitVec 64) (x y z : Byte) (w : World) :
    Calls Try.prog 6 #[.int .u64 (n.toNat : Int), .agg #[.int .u8 (x.toNat : Int), .int .u8 (y.toNat : Int)], .int .u8 (z.toNat : Int)] w fun e w' => e = .returned (.bool true) ∧ Below w.heap.size w w' := by
  have hx := x.isLt
  have hy := y.isLt
  have hz := z.isLt
  have hn := n.isLt
  obtain ⟨X, hX⟩ : ∃ X, X = x.toNat % 65 := ⟨_, rfl⟩
  obtain ⟨Y, hY⟩ : ∃ Y, Y = y.toNat % 65 := ⟨_, rfl⟩
  obtain ⟨Z, hZ⟩ : ∃ Z, Z = z.toNat % 9 := ⟨_, rfl⟩
  have eX : (x.toNat : Int) % 65 = (X : Int) := by omega
  have eY : (y.toNat : Int) % 65 = (Y : Int) := by omega
  have eZ : (z.toNat : Int) % 9 = (Z : Int) := by omega
  have bX : X ≤ 64 := by omega
  have bY : Y ≤ 64 := by omega
  have bZ : Z ≤ 8 := by omega
  clear hX hY hZ
  go_enter Try.func6, Try.ntmps6
  go_wp2_with fail
  go_quiet (fail)
  go_wp2_with fail
  obtain ⟨v0, hv0⟩ : ∃ v0, v0 = (w.alloc (.cells #[.int .u8 (x.toNat : Int), .int .u8 (y.toNat : Int)] 49)).drewN nq := ⟨_, rfl⟩
  rw [← hv0]
  have bel0 : Below w.heap.size w v0 := by rw [hv0]; exact ((Below.refl _ _).alloc (Nat.le_refl _) _).trans ⟨rfl, rfl, rfl, Nat.le_refl _, fun _ _ => rfl⟩
  clear hv0
  refine (newWriter_any _).mono ?_
  rintro e w0 ⟨rfl, hw0⟩
  have hW0 : WAt w0 w.heap.size v0.heap.size none [] := by rw [← hw0]; exact WAt_new _ _
  have bel1 : Below w.heap.size w w0 := by rw [← hw0]; exact bel0.alloc bel0.size _
  have hz0 := hW0.lt
  clear hw0
  go_wp2_with fail
  refine (newWriter_any _).mono ?_
  rintro e w1 ⟨rfl, hw1⟩
  have hV1 : WAt w1 w.heap.size w0.heap.size none [] := by rw [← hw1]; exact WAt_new _ _
  have hW1 : WAt w1 w.heap.size v0.heap.size none [] := by rw [← hw1]; exact hW0.only ((Only.refl [] w0).alloc _) (by simp) (by simp)
  have bel2 : Below w.heap.size w w1 := by rw [← hw1]; exact bel1.alloc bel1.size _
  obtain ⟨g, hg⟩ : ∃ g, g = v0.heap.size := ⟨_, rfl⟩
  obtain ⟨g2, hg2⟩ : ∃ g2, g2 = w0.heap.size := ⟨_, rfl⟩
  rw [← hg] at hW1 ⊢
  rw [← hg2] at hV1 ⊢
  have hgg : g ≠ g2 := by omega
  have hgl : w.heap.size ≤ g := by have := bel0.size; omega
  have hgl2 : w.heap.size ≤ g2 := by have := bel1.size; omega
  clear hw1 hW0 bel0 bel1 hz0 hg hg2
  by_cases h64 : 64 < X + Y
  · go_wp2_with (go_at_call 10; refine (lives_end bel2).mono ?_; rintro e w2 ⟨rfl, hbel⟩)
    go_ret
    exact ⟨rfl, hbel⟩
  go_wp2_with fail
  refine (put_nat _ w.heap.size g none [] _ _ z.toNat Z rfl (by omega) rfl hW1 (by omega) (by simp) bel2.size).mono ?_
  rintro e w2 ⟨rfl, hP⟩
  have bel3 := bel2.trans (hP.below hW1 (Nat.le_refl _) hgl)
  obtain ⟨r1, hW2, hV2, hd⟩ := put_two hW1 hV1 hgg (by simp) hP
  clear hP hW1 hV1 bel2
  go_wp2_with fail
  refine (put_nat _ w.heap.size g2 none [] _ _ z.toNat Z rfl (by omega) rfl hV2 (by omega) (by simp) bel3.size).mono ?_
  rintro e w3 ⟨rfl, hP⟩
  have bel4 := bel3.trans (hP.below hV2 (Nat.le_refl _) hgl2)
  obtain ⟨r2, hV3, hW3, hd3⟩ := put_two hV2 hW2 hgg.symm (by simp) hP
  clear hP hW2 hV2 bel3 hd
  have hl1 : ([] ++ bitsOf z.toNat Z).length ≤ 8 := by rw [List.nil_append, bitsOf_len]; exact bZ
  go_wp2_with fail
  refine (put_nat _ w.heap.size g r1 _ _ _ n.toNat (X + Y) rfl (by omega) (by omega) hW3 (by omega) (by omega) bel4.size).mono ?_
  rintro e w4 ⟨rfl, hP⟩
  have bel5 := bel4.trans (hP.below hW3 (Nat.le_refl _) hgl)
  obtain ⟨r3, hW4, hV4, hd4⟩ := put_two hW3 hV3 hgg (fun i h1 h2 => hd3 i h2 h1) hP
  clear hP hW3 hV3 bel4 hd3
  have hq : n.toNat / 2 ^ Y ≤ n.toNat := Nat.div_le_self _ _
  go_wp2_with fail
  refine (put_nat _ w.heap.size g2 r2 _ _ _ (n.toNat / 2 ^ Y) X (div_nat n Y) (by omega) rfl hV4 (by omega) (by omega) bel5.size).mono ?_
  rintro e w5 ⟨rfl, hP⟩
  have bel6 := bel5.trans (hP.below hV4 (Nat.le_refl _) hgl2)
  obtain ⟨r4, hV5, hW5, hd5⟩ := put_two hV4 hW4 hgg.symm (fun i h1 h2 => hd4 i h2 h1) hP
  clear hP hW4 hV4 bel5 hd4
  have hl2 : (([] ++ bitsOf z.toNat Z) ++ bitsOf (n.toNat / 2 ^ Y) X).length ≤ 72 := by rw [List.length_append, bitsOf_len]; omega
  go_wp2_with fail
  refine (put_nat _ w.heap.size g2 r4 _ _ _ n.toNat Y rfl (by omega) rfl hV5 (by omega) (by omega) bel6.size).mono ?_
  rintro e w6 ⟨rfl, hP⟩
  have bel7 := bel6.trans (hP.below hV5 (Nat.le_refl _) hgl2)
  obtain ⟨r5, hV6, hW6, hd6⟩ := put_two hV5 hW5 hgg.symm hd5 hP
  rw [List.append_assoc, bitsOf_split] at hV6
  have hl3 : (([] ++ bitsOf z.toNat Z) ++ bitsOf n.toNat (X + Y)).length ≤ 72 := by rw [List.length_append, bitsOf_len]; omega
  obtain ⟨M, hM⟩ : ∃ M, M = ([] ++ bitsOf z.toNat Z) ++ bitsOf n.toNat (X + Y) := ⟨_, rfl⟩
  rw [← hM] at hV6 hW6 hl3
  clear hP hW5 hV5 bel6 hd5 hM hl1 hl2 hq hd6
  go_wp2_with fail
  refine (wlen_any _ _ g r3 M hW6 (by omega)).mono ?_
  rintro e w7 ⟨rfl, a, rfl⟩
  go_wp2_with fail
  refine (wlen_any _ _ g2 r5 M (hV6.draws a) (by omega)).mono ?_
  rintro e w7 ⟨rfl, b, rfl⟩
  have bel9 : Below w.heap.size w (w6.drewN (a + b)) := bel7.trans ⟨rfl, rfl, rfl, Nat.le_refl _, fun _ _ => rfl⟩
  have hW8 := hW6.draws (a + b)
  have hV8 := hV6.draws (a + b)
  clear hW6 hV6 bel7
  go_wp2_with fail
  refine (wbytes_any _ _ g r3 M hW8 (by omega)).mono ?_
  rintro e w8 ⟨v, bs, rfl, hpk, hown, hba⟩
  obtain ⟨A, c, rfl, hA, hAn, _⟩ := hown.reads
  have bel10 := bel9.trans (hba.mono bel9.size)
  have hV9 := hV8.only (Only.of_below (S := []) hba) (by simp) (by simp)
  clear hW8 hV8 hown hba bel9
  go_wp2_with fail
  refine (wbytes_any _ _ g2 r5 M hV9 (by omega)).mono ?_
  rintro e w9 ⟨v, bs2, rfl, hpk2, hown, hba⟩
  obtain rfl := hpk2.unique hpk
  obtain ⟨A2, c2, rfl, hA2, hAn2, _⟩ := hown.reads
  have bel11 := bel10.trans (hba.mono bel10.size)
  have hA3 := (hA.below hba).more hba.size
  clear hV9 hown hba bel10 hA hpk hpk2
  go_wp2_with fail
  refine (same_any _ _ _ _ _ _ _ _ _ rfl rfl hA3 hA2 hAn hAn2).mono ?_
  rintro e wb ⟨rfl, rfl⟩
  rw [decide_eq_true (rfl : bs2 = bs2)]
  clear hA3 hA2 hAn hAn2
  go_wp2_with fail
  refine (lives_end bel11).mono ?_
  rintro e wc ⟨rfl, hbel⟩
  go_wp2_with fail
  go_ret
  exact ⟨rfl, hbel⟩
end Go.Proofs.Ytgomkhllhpghmab
